/- CopyLine of raw lines. -/
import Derived.Test.YthhajbgddifenaaRd
import Derived.Deep.RegionLaw
namespace Go.Proofs.Ythhajbgddifenaa
open Go.RowKit Go.Shelf

def rlineC (vh : Value) (L : RLine) (vs : Value) : List Value := [vh, .int .i64 L.worn, .int .i64 L.scr, .int .i64 L.total, vs]
/-- The hands so far. -/
def RcH (w : World) (L : RLine) (k : Nat) (wr : World) : Prop :=
  ∃ (svs : List Value) (vh' : Value), Blok wr w.heap.size 25 (rlineC vh' L (.slice none 0 0)) ∧ Blok wr (w.heap.size + 1) 25 zeroLine ∧
    wr.ownsRow (w.heap.size + 2) 68 3 vh' k (rhdCells (L.hands.take k) svs) ∧ ShOwn (w.heap.size + 2) wr (L.hands.take k) svs ∧ Below w.heap.size w wr
theorem RcH.step {w wr w5 w8 : World} {L : RLine} {k : Nat} {svs : List Value} {v0 : Value} {A A8 : Option Addr} {c c8 : Nat} {bhc : List Value} (hk : k < L.hands.length)
    (b1 : Blok wr w.heap.size 25 (rlineC v0 L (.slice none 0 0))) (b2 : Blok wr (w.heap.size + 1) 25 zeroLine) (ho : wr.ownsRow (w.heap.size + 2) 68 3 v0 k (rhdCells (L.hands.take k) svs)) (hsh : ShOwn (w.heap.size + 2) wr (L.hands.take k) svs) (hb : Below w.heap.size w wr)
    (hz : w.heap.size + 1 < wr.heap.size) (hb5 : Below wr.heap.size wr w5) (hbox : Blok w5 wr.heap.size 68 bhc) (u : Value) (o : Obj)
    (own5 : w5.ownsRow (wr.heap.size + 1) 86 2 (.slice A (L.hands[k]).shapes.length c) (L.hands[k]).shapes.length (rshCells (L.hands[k]).shapes))
    (hg8 : ((w5.setCell ⟨wr.heap.size, 2, none⟩ u).alloc o).grownBy w8 v0.ownBlock)
    (own8 : w8.ownsRow (w.heap.size + 2) 68 3 (.slice A8 (k + 1) c8) (k + 1) (rhdCells (L.hands.take k) svs ++ [.int .i64 (L.hands[k]).low, .int .i64 (L.hands[k]).high, .slice A (L.hands[k]).shapes.length c])) :
    RcH w L (k + 1) (w8.setCell ⟨w.heap.size, 0, none⟩ (.slice A8 (k + 1) c8)) := by
  have hb7 : Below wr.heap.size wr ((w5.setCell ⟨wr.heap.size, 2, none⟩ u).alloc o) := (hb5.setCell (p := ⟨wr.heap.size, 2, none⟩) (Nat.le_refl _) u).alloc (setCell_le hb5.size) o
  have hl := hb7.size
  have B17 := b1.below hb7 (by omega)
  have B27 := b2.below hb7 (by omega)
  have ho7 := own_below ho hb7 (Nat.le_refl _)
  have own7 := (own_far own5 (p := ⟨wr.heap.size, 2, none⟩) (own_ne_row own5 hbox (by decide)) u).alloc o
  have B18 := B17.grown hg8 (own_ne_row ho7 B17 (by decide))
  have B28 := B27.grown hg8 (own_ne_row ho7 B27 (by decide))
  have keep : ∀ {v : Value} {n base : Nat} {xs : List Value}, ((w5.setCell ⟨wr.heap.size, 2, none⟩ u).alloc o).ownsRow base 86 2 v n xs → (w8.setCell ⟨w.heap.size, 0, none⟩ (.slice A8 (k + 1) c8)).ownsRow base 86 2 v n xs := fun h =>
    have h8 := h.kept hg8 (own_own_ne h ho7 (by decide))
    own_far h8 (own_ne_row h8 B18 (by decide)) _
  have htk : L.hands.take (k + 1) = L.hands.take k ++ [L.hands[k]] := List.take_succ_eq_append_getElem hk
  refine ⟨svs ++ [.slice A (L.hands[k]).shapes.length c], .slice A8 (k + 1) c8, B18.put 0 _, B28.far (by simp) _, ?_, ⟨by rw [List.length_append, hsh.1]; simp; omega, ?_⟩, ?_⟩
  · have := own_far own8 (p := ⟨w.heap.size, 0, none⟩) (own_ne_row own8 B18 (by decide)) (.slice A8 (k + 1) c8)
    rw [htk, rhdCells_snoc _ _ _ _ hsh.1]
    exact this
  · intro j q v h1 h2
    rw [htk] at h1
    by_cases hj : j < (L.hands.take k).length
    · rw [List.getElem?_append_left hj] at h1
      rw [List.getElem?_append_left (by rw [hsh.1]; exact hj)] at h2
      exact keep (own_below (hsh.2 j q v h1 h2) hb7 (Nat.le_refl _))
    · have hj' : j = (L.hands.take k).length := by
        have := (List.getElem?_eq_some_iff.1 h1).1
        simp at this
        simp at hj ⊢
        omega
      subst hj'
      have e1 : L.hands[k] = q := by
        rw [List.getElem?_append_right (Nat.le_refl _), Nat.sub_self] at h1
        injection h1
      rw [← hsh.1] at h2
      have e2 : (Value.slice A (L.hands[k]).shapes.length c) = v := by simpa using h2
      subst e1 e2
      exact keep (own_mono own7 (by omega))
  · exact ((hb.trans (hb7.mono (by omega))).grown hg8 (by omega) fun j e => by have := (ho.lt j e).1; omega).setCell (p := ⟨w.heap.size, 0, none⟩) (Nat.le_refl _) _
/-- The squares so far. -/
def RcQ (w : World) (L : RLine) (vh : Value) (svs : List Value) (k : Nat) (wr : World) : Prop :=
  ∃ (lvs : List Value) (vq : Value), Blok wr w.heap.size 25 (rlineC vh L vq) ∧ Blok wr (w.heap.size + 1) 25 zeroLine ∧ wr.ownsRow (w.heap.size + 2) 68 3 vh L.hands.length (rhdCells L.hands svs) ∧ ShOwn (w.heap.size + 2) wr L.hands svs ∧
    wr.ownsRow (w.heap.size + 2) 39 1 vq k lvs ∧ LtOwn (w.heap.size + 2) wr (L.squares.take k) lvs ∧ Below w.heap.size w wr
theorem RcQ.step {w wr w5 w7 w8 : World} {L : RLine} {vh : Value} {svs : List Value} {k : Nat} {lvs : List Value} {vq : Value} {A A8 : Option Addr} {c c8 : Nat} (hk : k < L.squares.length)
    (b1 : Blok wr w.heap.size 25 (rlineC vh L vq)) (b2 : Blok wr (w.heap.size + 1) 25 zeroLine) (hh : wr.ownsRow (w.heap.size + 2) 68 3 vh L.hands.length (rhdCells L.hands svs)) (hsh : ShOwn (w.heap.size + 2) wr L.hands svs)
    (ho : wr.ownsRow (w.heap.size + 2) 39 1 vq k lvs) (hsq : LtOwn (w.heap.size + 2) wr (L.squares.take k) lvs) (hb : Below w.heap.size w wr)
    (hz : w.heap.size + 1 < wr.heap.size) (hb5 : Below wr.heap.size wr w5)
    (own5 : w5.ownsRow wr.heap.size 27 2 (.slice A (L.squares[k]).length c) (L.squares[k]).length (rltCells L.squares[k])) (hb7 : Below w5.heap.size w5 w7)
    (hg8 : w7.grownBy w8 vq.ownBlock)
    (own8 : w8.ownsRow (w.heap.size + 2) 39 1 (.slice A8 (k + 1) c8) (k + 1) (lvs ++ [.slice A (L.squares[k]).length c])) :
    RcQ w L vh svs (k + 1) (w8.setCell ⟨w.heap.size, 4, none⟩ (.slice A8 (k + 1) c8)) := by
  have hb57 := hb5.size
  have hbr7 : Below wr.heap.size wr w7 := hb5.trans (hb7.mono hb57)
  have hl := hbr7.size
  have B17 := b1.below hbr7 (by omega)
  have B27 := b2.below hbr7 (by omega)
  have ho7 := own_below ho hbr7 (Nat.le_refl _)
  have B18 := B17.grown hg8 (own_ne_row ho7 B17 (by decide))
  have B28 := B27.grown hg8 (own_ne_row ho7 B27 (by decide))
  have own7 := own_below own5 hb7 (Nat.le_refl _)
  have htk : L.squares.take (k + 1) = L.squares.take k ++ [L.squares[k]] := List.take_succ_eq_append_getElem hk
  have keep : ∀ {v : Value} {n base size : Nat} {e : TypeId} {xs : List Value}, w7.ownsRow base e size v n xs → e ≠ 39 → e ≠ 25 → (w8.setCell ⟨w.heap.size, 4, none⟩ (.slice A8 (k + 1) c8)).ownsRow base e size v n xs := fun h h1 h2 =>
    have h8 := h.kept hg8 (own_own_ne h ho7 h1)
    own_far h8 (own_ne_row h8 B18 h2) _
  refine ⟨lvs ++ [.slice A (L.squares[k]).length c], .slice A8 (k + 1) c8, B18.put 4 _, B28.far (by simp) _, keep (own_below hh hbr7 (Nat.le_refl _)) (by decide) (by decide), ⟨hsh.1, fun j q v h1 h2 => keep (own_below (hsh.2 j q v h1 h2) hbr7 (Nat.le_refl _)) (by decide) (by decide)⟩, own_far own8 (own_ne_row own8 B18 (by decide)) _, ⟨by rw [List.length_append, hsq.1]; simp; omega, ?_, ?_⟩, ?_⟩
  · intro j q v h1 h2
    rw [htk] at h1
    by_cases hj : j < (L.squares.take k).length
    · rw [List.getElem?_append_left hj] at h1
      rw [List.getElem?_append_left (by rw [hsq.1]; exact hj)] at h2
      exact keep (own_below (hsq.2.1 j q v h1 h2) hbr7 (Nat.le_refl _)) (by decide) (by decide)
    · have hj' : j = (L.squares.take k).length := by
        have := (List.getElem?_eq_some_iff.1 h1).1
        simp at this
        simp at hj ⊢
        omega
      subst hj'
      have e1 : L.squares[k] = q := by
        rw [List.getElem?_append_right (Nat.le_refl _), Nat.sub_self] at h1
        injection h1
      rw [← hsq.1] at h2
      have e2 : (Value.slice A (L.squares[k]).length c) = v := by simpa using h2
      subst e1 e2
      exact keep (own_mono own7 (by omega)) (by decide) (by decide)
  · rw [List.pairwise_append]
    refine ⟨hsq.2.2, by simp, fun a ha b hb' g hg hg' => ?_⟩
    obtain rfl : b = .slice A (L.squares[k]).length c := by simpa using hb'
    obtain ⟨j, hj⟩ := List.mem_iff_getElem?.1 ha
    have hjl := (List.getElem?_eq_some_iff.1 hj).1
    rw [hsq.1] at hjl
    have h1 := (hsq.2.1 j _ a (List.getElem?_eq_getElem hjl) hj).lt g hg
    have h2 := own5.lt g hg'
    omega
  · exact ((hb.trans (hbr7.mono (by omega))).grown hg8 (by omega) fun j e => by have := (ho.lt j e).1; omega).setCell (p := ⟨w.heap.size, 4, none⟩) (Nat.le_refl _) _
def RCopyPost (L : RLine) (w : World) (e : Ending) (w' : World) : Prop :=
  ∃ (vh vq : Value) (svs lvs : List Value), e = .returned (rlineV vh vq L) ∧ ROwn (w.heap.size + 2) w' vh vq L svs lvs ∧ Below w.heap.size w w'
theorem RCopyPost.of {w wr : World} {L : RLine} {svs lvs : List Value} {vh vq v0 v1 v2 v3 v4 : Value} (b2 : Blok wr (w.heap.size + 1) 25 zeroLine) (h : ROwn (w.heap.size + 2) wr vh vq L svs lvs) (hb : Below w.heap.size w wr) :
    RCopyPost L w (.returned (rlineV vh vq L)) (cp5 wr (w.heap.size + 1) v0 v1 v2 v3 v4) :=
  ⟨vh, vq, svs, lvs, rfl, ⟨cp5_own b2 h.hands (by decide), ⟨h.shapes.1, fun j q v h1 h2 => cp5_own b2 (h.shapes.2 j q v h1 h2) (by decide)⟩, cp5_own b2 h.squares (by decide), ⟨h.lights.1, fun k q v h1 h2 => cp5_own b2 (h.lights.2.1 k q v h1 h2) (by decide), h.lights.2.2⟩⟩, cp5_below hb (by omega)⟩
structure RSmall (L : RLine) : Prop where
  hands : L.hands.length ≤ 100
  shapes : ∀ h ∈ L.hands, h.shapes.length ≤ 100
  squares : L.squares.length ≤ 100
  lights : ∀ q ∈ L.squares, q.length ≤ 100
set_option maxRecDepth 100000 in
set_option maxHeartbeats 2000000 in
theorem rcopy_any (v : Value) (L : RLine) (w : World) (hv : RLineAt w w.heap.size v L) (hL : RSmall L) : Calls Try.prog 17 #[v] w (RCopyPost L w) := by
  obtain ⟨vh, vs, rfl, hh, hs⟩ := hv
  obtain ⟨AH, ch, rfl, hhf⟩ := RSl.form hh
  obtain ⟨AQ, cq, rfl, hsf⟩ := RSl.form hs
  obtain ⟨n, hn⟩ : ∃ n, n = L.hands.length := ⟨_, rfl⟩
  obtain ⟨m, hm⟩ : ∃ m, m = L.squares.length := ⟨_, rfl⟩
  have hn4 : n ≤ 100 := by rw [hn]; exact hL.hands
  have hm8 : m ≤ 100 := by rw [hm]; exact hL.squares
  rw [← hn] at hhf
  rw [← hm] at hsf
  have HHB := Lib.hid hhf
  have HSB := Lib.hid hsf
  rw [← hn, ← hm]
  have HN := Lib.hid hn
  have HM := Lib.hid hm
  have HOK := Lib.hid hL
  clear hn hm hL hh hs hhf hsf
  obtain ⟨ih, hih, hiz0, hiz1, hiz2⟩ := info_parts info_hand
  obtain ⟨is, his, hisz0, hisz1, hisz2⟩ := info_parts info_shape
  have HIH := Lib.hid hih
  have HIH0 := Lib.hid hiz0
  have HIH1 := Lib.hid hiz1
  have HIH2 := Lib.hid hiz2
  obtain ⟨il, hil, hilz0, hilz1, hilz2⟩ := info_parts info_cplight
  obtain ⟨iq, hiq, hiqz0, hiqz1, hiqz2⟩ := info_parts info_cplights
  have HIS := Lib.hid his
  have HIL := Lib.hid hil
  have HIL0 := Lib.hid hilz0
  have HIL1 := Lib.hid hilz1
  have HIL2 := Lib.hid hilz2
  have HIQ := Lib.hid hiq
  have HIQ0 := Lib.hid hiqz0
  have HIQ1 := Lib.hid hiqz1
  have HIQ2 := Lib.hid hiqz2
  clear hil hilz0 hilz1 hilz2 hiq hiqz0 hiqz1 hiqz2
  have HIS0 := Lib.hid hisz0
  have HIS1 := Lib.hid hisz1
  have HIS2 := Lib.hid hisz2
  clear hih hiz0 hiz1 hiz2 his hisz0 hisz1 hisz2
  go_enter Try.func17, Try.ntmps17
  go_wp2_with fail
  go_quiet (fail)
  go_wp2_with fail
  go_loopw [5] (fun i wr => ∃ k : Nat, k ≤ n ∧ i = .int .i64 k ∧ RcH w L k wr) (fun i _ => n - (intOf i).toNat)
  case atStart =>
    have hz1 : (w.alloc (.cells #[.slice AH n ch, .int .i64 L.worn, .int .i64 L.scr, .int .i64 L.total, .slice AQ m cq] 25)).heap.size = w.heap.size + 1 := by simp
    have b2 := Blok.new (w.alloc (.cells #[.slice AH n ch, .int .i64 L.worn, .int .i64 L.scr, .int .i64 L.total, .slice AQ m cq] 25)) 25 zeroLine
    rw [hz1] at b2
    have b1 := (Blok.new w 25 [.slice AH n ch, .int .i64 L.worn, .int .i64 L.scr, .int .i64 L.total, .slice AQ m cq]).alloc (.cells #[.slice none 0 0, .int .i64 0, .int .i64 0, .int .i64 0, .slice none 0 0] 25)
    have hbl := ((Below.refl w.heap.size w).alloc (Nat.le_refl _) (.cells #[.slice AH n ch, .int .i64 L.worn, .int .i64 L.scr, .int .i64 L.total, .slice AQ m cq] 25)).alloc (by simp) (.cells #[.slice none 0 0, .int .i64 0, .int .i64 0, .int .i64 0, .slice none 0 0] 25)
    refine ⟨0, by omega, rfl, [], .slice none 0 0, ?_, ?_, World.ownsRow_nil _ _ _ _, ⟨by simp, by simp⟩, ?_⟩
    · exact ((b1.drewN nq).put 0 _).put 4 _
    · exact ((b2.drewN nq).far (p := ⟨w.heap.size, 0, none⟩) (by simp) _).far (p := ⟨w.heap.size, 4, none⟩) (by simp) _
    · exact ((below_drewN hbl nq).setCell (p := ⟨w.heap.size, 0, none⟩) (Nat.le_refl _) _).setCell (p := ⟨w.heap.size, 4, none⟩) (Nat.le_refl _) _
  case round =>
    obtain ⟨k, hk, rfl, svs, vh', b1, b2, ho, hsh, hb⟩ := hrel
    obtain ⟨A', c', rfl⟩ := own_slice ho
    have B1 := Lib.hid b1
    have B2 := Lib.hid b2
    have HO := Lib.hid ho
    have HSH := Lib.hid hsh
    have HB := Lib.hid hb
    have hz := hb.size
    have hzl := b2.size
    clear b1 b2 ho hsh hb
    by_cases hlt : k < n
    · have hkl : k < L.hands.length := by rw [← HN.out]; exact hlt
      obtain ⟨hx, rfl, hxb, hxR⟩ := HHB.out (by omega)
      obtain ⟨d1, d2, sv, d3, hsv⟩ := hxR k L.hands[k] (List.getElem?_eq_getElem hkl)
      have d1 := (HB.out.cell (p := hx.add (k * 3)) (by rw [Addr.add_block]; exact hxb)).trans d1
      have d2 := (HB.out.cell (p := hx.add (k * 3 + 1)) (by rw [Addr.add_block]; exact hxb)).trans d2
      have d3 := (HB.out.cell (p := hx.add (k * 3 + 2)) (by rw [Addr.add_block]; exact hxb)).trans d3
      rw [← Addr.nth hx (k * 3) 0] at d2
      rw [← Addr.nth hx (k * 3) 1] at d3
      obtain ⟨As, cs, hse, -⟩ := RSl.form hsv
      rw [hse] at d3
      have hp8 : L.hands[k].shapes.length ≤ 100 := HOK.out.shapes _ (List.getElem_mem hkl)
      have hxb' : hx.block < wr.heap.size := by omega
      have HR := Lib.hid hsv
      have HSE := Lib.hid hse
      have k0 : (0 : Int) ≤ (k : Int) := by omega
      have k1 : (k : Int) < (n : Int) := by omega
      clear hsv hse hxR
      have HKL := Lib.hid hkl
      have l0 := B1.out.cell 0
      have l1 := B1.out.free 0
      go_wp2_with (first
        | (at_builtin; refine wpList_append_src rfl _ _ 66 rfl (wr.heap.size + 1) 86 is _ 2 16 Try.underlying66 HIS.out HIS0.out HIS1.out HIS2.out rfl (by decide) (.slice (some ⟨wr.heap.size + 1, 0, none⟩) 0 0) 0 [] (by rfl) (own_lit0 wr _ _ _) _ L.hands[k].shapes.length (rshCells L.hands[k].shapes) (by rfl) (HSE.out ▸ RShapes.src HR.out fun x hx => ((HB.out.alloc (by omega) _).alloc (by simp; omega) _).cell (p := x) hx) (rshCells_len _) (rshCells_one _) (by unfold maxLen; omega) (by omega) (by simp) _ rfl ?_; intro A5 c5 w5 hown5 hgrow5 hat5
           rw [Nat.zero_add] at hown5 hat5 ⊢
           have hb5 : Below wr.heap.size wr w5 := (((Below.refl _ wr).alloc (Nat.le_refl _) _).alloc (by simp) _).grown hgrow5 (by simp; omega) (fun j e => by simp [Value.ownBlock] at e; omega)
           have hbox5 := ((Blok.new wr 68 [.int .i64 L.hands[k].low, .int .i64 L.hands[k].high, .slice As L.hands[k].shapes.length cs]).alloc (.cells #[] 86)).grown hgrow5 (by simp [Value.ownBlock])
           have k0 : w5.cell? ⟨wr.heap.size, 0, none⟩ = some (.int .i64 L.hands[k].low) := hbox5.cell 0
           have k1 : w5.cell? ⟨wr.heap.size, 1, none⟩ = some (.int .i64 L.hands[k].high) := hbox5.cell 1
           have k2 : w5.cell? ⟨wr.heap.size, 2, none⟩ = some (.slice As L.hands[k].shapes.length cs) := hbox5.cell 2
           have k3 := hbox5.free 2
           have B5 := B1.out.below hb5 (by omega)
           have l0 : w5.cell? ⟨w.heap.size, 0, none⟩ = some (.slice A' k c') := B5.cell 0
           have l1 := B5.free 0
           have hne := Nat.ne_of_lt (show w.heap.size < wr.heap.size by omega)
           have HB7 := Lib.hid ((hb5.setCell (p := ⟨wr.heap.size, 2, none⟩) (Nat.le_refl _) (.slice A5 L.hands[k].shapes.length c5)).alloc (setCell_le hb5.size) (.cells #[.int .i64 L.hands[k].low, .int .i64 L.hands[k].high, .slice A5 L.hands[k].shapes.length c5] 68))
           have hn7 := World.news_of_block (heap_alloc_new (w5.setCell ⟨wr.heap.size, 2, none⟩ (.slice A5 L.hands[k].shapes.length c5)) (.cells #[.int .i64 L.hands[k].low, .int .i64 L.hands[k].high, .slice A5 L.hands[k].shapes.length c5] 68))
           rw [setCell_size] at hn7
           have HN7 := Lib.hid hn7
           have HB5 := Lib.hid hb5
           clear hn7
           have HBX := Lib.hid hbox5
           have HG5 := Lib.hid hgrow5
           have HO5 := Lib.hid hown5
           have hz5 := hb5.size
           have hz5' := hbox5.size
           clear B5 hb5 hbox5 hgrow5 hown5 hat5)
        | (at_builtin; go_loud (refine wpList_append_lies _ rfl _ _ 22 rfl (w.heap.size + 2) 68 ih _ 3 40 Try.underlying22 HIH.out HIH0.out HIH1.out HIH2.out rfl (by decide) (.slice A' k c') k (rhdCells (L.hands.take k) svs) (by rfl) (own_below HO.out HB7.out (Nat.le_refl _)) ⟨w5.heap.size, 0, none⟩ 1 1 [.int .i64 L.hands[k].low, .int .i64 L.hands[k].high, .slice A5 L.hands[k].shapes.length c5] (by rfl) (by rfl) HN7.out (by simp [Value.oneCell']) (by omega) (by unfold maxLen; omega) (by omega) (by have := HB7.out.size; omega) _ rfl ?_); intro g8 c8 w8 hown8 hgrow8 hat8 hlt8
           have B8 := (B1.out.below HB7.out (by omega)).grown hgrow8 (own_ne_row (own_below HO.out HB7.out (Nat.le_refl _)) (B1.out.below HB7.out (by omega)) (by decide))
           have l8 : w8.cell? ⟨w.heap.size, 0, none⟩ = some (.slice A' k c') := B8.cell 0
           have l9 := B8.free 0
           have HG8 := Lib.hid hgrow8
           have HO8 := Lib.hid hown8
           clear B8 hgrow8 hown8 hat8))
      exact ⟨⟨k + 1, by omega, by go_num, RcH.step HKL.out B1.out B2.out HO.out HSH.out HB.out hzl HB5.out HBX.out _ _ HO5.out HG8.out HO8.out⟩, by simp [intOf]; omega⟩
    · obtain rfl : k = n := by omega
      have htk : L.hands.take k = L.hands := List.take_of_length_le (by rw [← HN.out]; exact Nat.le_refl _)
      have ho := HO.out
      have hsh := HSH.out
      rw [htk] at ho hsh
      have HHO := Lib.hid (show wr.ownsRow (w.heap.size + 2) 68 3 (.slice A' k c') L.hands.length (rhdCells L.hands svs) by rw [← HN.out]; exact ho)
      have HHS := Lib.hid hsh
      clear ho hsh htk HO HSH
      go_wp2_with fail
      go_loopw [7] (fun i wq => ∃ j : Nat, j ≤ m ∧ i = .int .i64 j ∧ RcQ w L (.slice A' k c') svs j wq) (fun i _ => m - (intOf i).toNat)
      case atStart => exact ⟨0, by omega, rfl, [], .slice none 0 0, B1.out, B2.out, HHO.out, HHS.out, World.ownsRow_nil _ _ _ _, ⟨by simp, by simp, List.Pairwise.nil⟩, HB.out⟩
      case round =>
        clear hz hzl B1 B2 HB
        obtain ⟨j, hj, rfl, lvs, vq, b1, b2, hh2, hs2, ho, hsq, hb⟩ := hrel
        obtain ⟨Aq, cq', rfl⟩ := own_slice ho
        have C1 := Lib.hid b1
        have C2 := Lib.hid b2
        have CH := Lib.hid hh2
        have CS := Lib.hid hs2
        have CO := Lib.hid ho
        have CQ := Lib.hid hsq
        have CB := Lib.hid hb
        have hz := hb.size
        have hzl := b2.size
        clear b1 b2 ho hsq hb hh2 hs2 HHO HHS
        have l4 : wr.cell? ⟨w.heap.size, 4, none⟩ = some (.slice Aq j cq') := C1.out.cell 4
        have f4 := C1.out.free 4
        by_cases hlt : j < m
        · have hjl : j < L.squares.length := by rw [← HM.out]; exact hlt
          obtain ⟨qx, rfl, hqb, hqR⟩ := HSB.out (by omega)
          obtain ⟨lv, d1, hlv⟩ := hqR j L.squares[j] (List.getElem?_eq_getElem hjl)
          have d1 := (CB.out.cell (p := qx.add j) (by rw [Addr.add_block]; exact hqb)).trans d1
          obtain ⟨A1, c1, hle, -⟩ := RSl.form hlv
          rw [hle] at d1
          have hq4 : L.squares[j].length ≤ 100 := HOK.out.lights _ (List.getElem_mem hjl)
          have hqb' : (qx.add j).block < wr.heap.size := by rw [Addr.add_block]; omega
          have hwl : w.heap.size < wr.heap.size := by omega
          have HR := Lib.hid hlv
          have HLE := Lib.hid hle
          have k0 : (0 : Int) ≤ (j : Int) := by omega
          have k1 : (j : Int) < (m : Int) := by omega
          clear hlv hle hqR
          have HJL := Lib.hid hjl
          go_wp2_with fail
          go_region_law (first
            | (refine step_append_src rfl _ _ 39 (by rfl) _ 27 il _ 2 16 Try.underlying39 HIL.out HIL0.out HIL1.out HIL2.out rfl (by decide) _ 0 [] (by rfl) (own_lit1 _ _ _) _ L.squares[j].length (rltCells L.squares[j]) (by rfl) (HLE.out ▸ RLights.src HR.out fun x hx => (CB.out.drew.alloc (by exact hz) _).cell (p := x) hx) (rltCells_len _) (rltCells_one _) (by unfold maxLen; omega) (by omega) (by simp) _ rfl ?_
               intro A5 c5 w5 hown5 hgrow5 hat5; rw [Nat.zero_add] at hown5 hat5 ⊢
               have hb5 : Below wr.heap.size wr w5 := ((((Below.refl wr.heap.size wr).drew).alloc (Nat.le_refl _) _).grown hgrow5 (by simp) (fun j e => by simp [Value.ownBlock] at e; omega))
               have l5 : w5.cell? ⟨w.heap.size, 4, none⟩ = some (.slice Aq j cq') := (C1.out.below hb5 (by omega)).cell 4
               have f5 := (C1.out.below hb5 (by omega)).free 4
               have hz5 := hb5.size
               have hw5 : w.heap.size < w5.heap.size := by omega
               have HB5 := Lib.hid hb5
               have HO5 := Lib.hid hown5
               clear hb5 hown5 hgrow5 hat5)
            | (refine step_append_lies (w5.alloc (.cells #[.slice A5 L.squares[j].length c5] 39)) (by rfl) (.tmp 42) (.tmp 49) 23 (by rfl) (w.heap.size + 2) 39 iq (.slice none 0 0) 1 24 Try.underlying23 HIQ.out HIQ0.out HIQ1.out HIQ2.out rfl (by decide) (.slice Aq j cq') j lvs (by rfl) (own_below CO.out (HB5.out.alloc hz5 (.cells #[.slice A5 L.squares[j].length c5] 39)) (Nat.le_refl _)) ⟨w5.heap.size, 0, none⟩ 1 1 [.slice A5 L.squares[j].length c5] (by rfl) (by rfl) (World.news_of_block (heap_alloc_new w5 (.cells #[.slice A5 L.squares[j].length c5] 39))) (by simp [Value.oneCell']) (by omega) (by unfold maxLen; omega) (by omega) (by simp; omega) _ rfl ?_
               intro g8 c8 w8 hown8 hgrow8 hat8 hlt8
               have B8 := (C1.out.below (HB5.out.alloc hz5 (.cells #[.slice A5 L.squares[j].length c5] 39)) (by omega)).grown hgrow8 (own_ne_row (own_below CO.out (HB5.out.alloc hz5 (.cells #[.slice A5 L.squares[j].length c5] 39)) (Nat.le_refl _)) (C1.out.below (HB5.out.alloc hz5 (.cells #[.slice A5 L.squares[j].length c5] 39)) (by omega)) (by decide))
               have l8 : w8.cell? ⟨w.heap.size, 4, none⟩ = some (.slice Aq j cq') := B8.cell 4
               have f8 := B8.free 4
               have HG8 := Lib.hid hgrow8
               have HO8 := Lib.hid hown8
               clear B8 hgrow8 hown8 hat8))
          all_goals
            go_wp2
            go_roundw
            case rel => exact ⟨j + 1, by omega, by go_num, RcQ.step HJL.out C1.out C2.out CH.out CS.out CO.out CQ.out CB.out hzl HB5.out HO5.out ((Below.refl _ _).alloc (Nat.le_refl _) _) HG8.out HO8.out⟩
            case measure => simp [intOf]; omega
        · obtain rfl : j = m := by omega
          have htk : L.squares.take j = L.squares := List.take_of_length_le (by rw [← HM.out]; exact Nat.le_refl _)
          have hsq := CQ.out
          rw [htk] at hsq
          have CSQ := Lib.hid hsq
          have l0 : wr.cell? ⟨w.heap.size, 0, none⟩ = some (.slice A' k c') := C1.out.cell 0
          have l1 : wr.cell? ⟨w.heap.size, 1, none⟩ = some (.int .i64 L.worn) := C1.out.cell 1
          have l2 : wr.cell? ⟨w.heap.size, 2, none⟩ = some (.int .i64 L.scr) := C1.out.cell 2
          have l3 : wr.cell? ⟨w.heap.size, 3, none⟩ = some (.int .i64 L.total) := C1.out.cell 3
          have r0 : wr.cell? ⟨w.heap.size + 1, 0, none⟩ = some (.slice none 0 0) := C2.out.cell 0
          have r1 : wr.cell? ⟨w.heap.size + 1, 1, none⟩ = some (.int .i64 0) := C2.out.cell 1
          have r2 : wr.cell? ⟨w.heap.size + 1, 2, none⟩ = some (.int .i64 0) := C2.out.cell 2
          have r3 : wr.cell? ⟨w.heap.size + 1, 3, none⟩ = some (.int .i64 0) := C2.out.cell 3
          have r4 : wr.cell? ⟨w.heap.size + 1, 4, none⟩ = some (.slice none 0 0) := C2.out.cell 4
          have f0 := C2.out.free 0
          have f1 := C2.out.free 1
          have f2 := C2.out.free 2
          have f3 := C2.out.free 3
          have f4 := C2.out.free 4
          clear hsq htk
          go_wp2
          refine bodyPost_ret (v := .agg #[.slice A' k c', .int .i64 L.worn, .int .i64 L.scr, .int .i64 L.total, .slice Aq j cq']) ?_ ?_ ?_
          · exact results_cell_row Try.results17 _ _ (w.heap.size + 1) 25 _ (0, 0) _ rfl (cp5_blok (v0 := .slice A' k c') (v1 := .int .i64 L.worn) (v2 := .int .i64 L.scr) (v3 := .int .i64 L.total) (v4 := .slice Aq j cq') C2.out) Try.underlying25 rfl (by kernel_rfl)
          · rfl
          · have hco := CO.out
            have hco2 : wr.ownsRow (w.heap.size + 2) 39 1 (.slice Aq j cq') L.squares.length lvs := by rw [← HM.out]; exact hco
            exact RCopyPost.of C2.out ⟨CH.out, CS.out, hco2, CSQ.out⟩ CB.out
end Go.Proofs.Ythhajbgddifenaa
