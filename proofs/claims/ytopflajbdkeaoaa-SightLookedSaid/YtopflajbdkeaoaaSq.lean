/- SightLooked's helpers: squareCost. -/
import Derived.Test.YtopflajbdkeaoaaMy
import Derived.Deep.RegionLaw
import Derived.Deep.RegionHeld3
import Derived.Deep.DeepCutAuto
import Derived.Deep.QuietTactic
import Derived.BigQuiet
import Derived.Deep.CutBlock
namespace Go.Proofs.Ytopflajbdkeaoaa
open Go.RowKit Go.Shelf

section
variable {w : World} {a1 a2 a3 a4 a5 : Addr} {u1 u2 u3 u4 u5 : Value} {o : Obj}
theorem cell_on {w : World} {a : Addr} {u : Value} {o : Obj} (h : w.cell? a = some u) : (w.alloc o).cell? a = some u := (World.cell?_alloc_some w a o (by rw [h]; rfl)).trans h
theorem five_on (h : w.cell? a1 = some u1 ∧ w.cell? a2 = some u2 ∧ w.cell? a3 = some u3 ∧ w.cell? a4 = some u4 ∧ w.cell? a5 = some u5) : (w.alloc o).cell? a1 = some u1 ∧ (w.alloc o).cell? a2 = some u2 ∧ (w.alloc o).cell? a3 = some u3 ∧ (w.alloc o).cell? a4 = some u4 ∧ (w.alloc o).cell? a5 = some u5 :=
  ⟨cell_on h.1, cell_on h.2.1, cell_on h.2.2.1, cell_on h.2.2.2.1, cell_on h.2.2.2.2⟩
theorem five_drew (h : w.cell? a1 = some u1 ∧ w.cell? a2 = some u2 ∧ w.cell? a3 = some u3 ∧ w.cell? a4 = some u4 ∧ w.cell? a5 = some u5) : w.drew.cell? a1 = some u1 ∧ w.drew.cell? a2 = some u2 ∧ w.drew.cell? a3 = some u3 ∧ w.drew.cell? a4 = some u4 ∧ w.drew.cell? a5 = some u5 := h
end
/-- A line of one hand with one letter, and of one square, as it lies in memory. -/
theorem alone_line {L : Line} {q s g12 g14 g26 : Nat} {lv : Value} {wx : World} (h1 : Blok wx g12 86 [.int .u8 65, .int .i64 s]) (h2 : Blok wx g14 68 [.int .i64 0, .int .i64 0, .slice (some ⟨g12, 0, none⟩) 1 1])
    (h3 : Blok wx g26 39 [lv]) (h4 : Lights wx wx.heap.size lv (L.squares.getD q [])) : LineAt wx wx.heap.size (.agg #[.slice (some ⟨g14, 0, none⟩) 1 1, .int .i64 L.worn, .int .i64 L.scr, .int .i64 L.total, .slice (some ⟨g26, 0, none⟩) 1 1]) (L.alone q s) := by
  refine ⟨_, _, rfl, ⟨_, _, rfl, fun _ => ⟨g14, 0, rfl, h2.size, fun k x hx => ?_⟩⟩, _, _, rfl, fun _ => ⟨g26, 0, rfl, h3.size, fun k x hx => ?_⟩⟩
  · rcases k with _ | k
    · obtain rfl : (⟨0, 0, [⟨65, s⟩]⟩ : Hand) = x := by simpa [Line.alone] using hx
      refine ⟨by rw [h2.cell]; rfl, by rw [h2.cell]; rfl, .slice (some ⟨g12, 0, none⟩) 1 1, by rw [h2.cell]; rfl, _, _, rfl, fun _ => ⟨g12, 0, rfl, h1.size, fun k x hx => ?_⟩⟩
      rcases k with _ | k
      · obtain rfl : (⟨65, s⟩ : Shape) = x := by simpa using hx
        exact ⟨by rw [h1.cell]; rfl, by rw [h1.cell]; rfl⟩
      · simp at hx
    · simp [Line.alone] at hx
  · rcases k with _ | k
    · obtain rfl : L.squares.getD q [] = x := by simpa [Line.alone] using hx
      exact ⟨lv, by rw [h3.cell]; rfl, h4⟩
    · simp [Line.alone] at hx
/-- What is behind the making of the line. -/
def SqCut (L : Line) (q s : Nat) (w : World) (p : Value) (wx : World) : Prop := ∃ (X : Nat) (vh vq : Value), p = .pointer (some ⟨X, 0, none⟩) ∧ Blok wx X 25 [vh, .int .i64 L.worn, .int .i64 L.scr, .int .i64 L.total, vq] ∧ LineAt wx wx.heap.size (.agg #[vh, .int .i64 L.worn, .int .i64 L.scr, .int .i64 L.total, vq]) (L.alone q s) ∧ Below w.heap.size w wx
theorem sq_cut {L : Line} {q s : Nat} {w wx : World} {X g12 g14 g26 : Nat} {lv : Value} (hb : Blok wx X 25 [.slice (some ⟨g14, 0, none⟩) 1 1, .int .i64 L.worn, .int .i64 L.scr, .int .i64 L.total, .slice (some ⟨g26, 0, none⟩) 1 1]) (h3 : Blok wx g26 39 [lv]) (h2 : Blok wx g14 68 [.int .i64 0, .int .i64 0, .slice (some ⟨g12, 0, none⟩) 1 1])
    (h1 : Blok wx g12 86 [.int .u8 65, .int .i64 s]) (hbel : Below w.heap.size w wx) (h4 : Lights w w.heap.size lv (L.squares.getD q [])) : SqCut L q s w (.pointer (some ⟨X, 0, none⟩)) wx :=
  ⟨X, _, _, rfl, hb, alone_line h1 h2 h3 (h4.keep (Same.of_below hbel) hbel.size), hbel⟩
theorem Blok.drew' {w : World} {t : TypeId} {cs : List Value} {g : Nat} (h : Blok w g t cs) : Blok w.drew g t cs := h
theorem Blok.new' {w : World} {t : TypeId} {cs : List Value} {g : Nat} (h : w.heap.size = g) : Blok (w.alloc (.cells cs.toArray t)) g t cs := h ▸ Blok.new w t cs
set_option maxRecDepth 100000 in
set_option maxHeartbeats 2000000 in
theorem sqCost_yes (v : Value) (L : Line) (w : World) (hv : LineAt w w.heap.size v L) (q : Nat) (hq : q < L.squares.length) (hm8 : L.squares.length ≤ 8) (s n : Nat) (hok : (L.alone q s).ok) (hm : marksOf (L.alone q s) = n) (hn : n ≤ 40) :
    Calls Try.prog 73 #[v, .int .i64 q, .int .i64 s] w fun e w' => e = .returned (.int .i64 n) ∧ Below w.heap.size w w' := by
  have HV := Lib.hid hv
  have HOK := Lib.hid hok
  have HM := Lib.hid hm
  obtain ⟨vh, vs, rfl, hh', hsq⟩ := hv
  obtain ⟨A, c, rfl, -⟩ := hh'
  obtain ⟨AQ, cQ, rfl, hsq⟩ := hsq
  obtain ⟨b, o, rfl, hb, hR⟩ := hsq (by omega)
  obtain ⟨lv, hlv, hlt⟩ := hR q _ (List.getElem?_eq_getElem hq)
  have HLT := Lib.hid hlt
  have q0 : (0 : Int) ≤ (q : Int) := by omega
  have q1 : (q : Int) < (L.squares.length : Int) := by omega
  obtain ⟨Al, cl, rfl, -⟩ := hlt
  obtain ⟨nq, hnq⟩ : ∃ nq, nq = L.squares[q].length := ⟨_, rfl⟩
  rw [← hnq] at hlv HLT
  have HNQ := Lib.hid hnq
  have HGD := Lib.hid (show L.squares.getD q [] = L.squares[q] by simp [List.getD, hq])
  clear hnq
  have b1 : b < w.heap.size + 1 := by omega
  have b2 : b < w.heap.size + 1 + 1 := by omega
  have b3 : b < w.heap.size + 1 + 1 + 1 := by omega
  have b4 : b < w.heap.size + 1 + 1 + 1 + 1 := by omega
  have bne : b ≠ w.heap.size := by omega
  clear hsq hok hm hR
  go_enter Try.func73, Try.ntmps73
  go_wp2_with fail
  obtain ⟨W0, hW0⟩ : ∃ W0, W0 = w.alloc (.cells #[.slice A L.hands.length c, .int .i64 L.worn, .int .i64 L.scr, .int .i64 L.total, .slice (some ⟨b, o, none⟩) L.squares.length cQ] 25) := ⟨_, rfl⟩
  have h5 : W0.cell? ⟨w.heap.size, 1, none⟩ = some (.int .i64 L.worn) ∧ W0.cell? ⟨w.heap.size, 2, none⟩ = some (.int .i64 L.scr) ∧ W0.cell? ⟨w.heap.size, 3, none⟩ = some (.int .i64 L.total) ∧ W0.cell? ⟨w.heap.size, 4, none⟩ = some (.slice (some ⟨b, o, none⟩) L.squares.length cQ) ∧ W0.cell? ⟨b, o + q, none⟩ = some (.slice Al nq cl) := by
    have hB := Blok.new w 25 [.slice A L.hands.length c, .int .i64 L.worn, .int .i64 L.scr, .int .i64 L.total, .slice (some ⟨b, o, none⟩) L.squares.length cQ]
    rw [hW0]
    exact ⟨hB.cell 1, hB.cell 2, hB.cell 3, hB.cell 4, cell_on hlv⟩
  have hb0 : Below w.heap.size w W0 := by rw [hW0]; exact (Below.refl _ _).alloc (Nat.le_refl _) _
  have z0 : w.heap.size < W0.heap.size := by rw [hW0]; simp
  rw [← hW0]
  have HB0 := Lib.hid hb0
  clear hlv hW0 hb0 b1 b2 b3 b4 bne
  go_cut [7] (fun p wx => SqCut L q s w p wx)
  case first =>
   go_region_held3 (fun w' => w'.cell? ⟨w.heap.size, 1, none⟩ = some (.int .i64 L.worn) ∧ w'.cell? ⟨w.heap.size, 2, none⟩ = some (.int .i64 L.scr) ∧ w'.cell? ⟨w.heap.size, 3, none⟩ = some (.int .i64 L.total) ∧ w'.cell? ⟨w.heap.size, 4, none⟩ = some (.slice (some ⟨b, o, none⟩) L.squares.length cQ) ∧ w'.cell? ⟨b, o + q, none⟩ = some (.slice Al nq cl))
    (first
      | exact five_drew h5
      | exact five_drew (five_on h5)
      | exact five_drew (five_on (five_on h5))
      | exact five_drew (five_on (five_on (five_on h5)))
      | exact five_drew (five_on (five_on (five_on (five_on h5))))
      | go_keep)
    (fail)
   all_goals
     go_wp2_with fail
     go_meet
     apply sq_cut (lv := .slice Al nq cl)
     · (first | exact Blok.drew' (Blok.new' (by simp)) | exact Blok.drew' ((Blok.new' (by simp)).alloc _) | exact Blok.drew' (((Blok.new' (by simp)).alloc _).alloc _) | exact Blok.drew' ((((Blok.new' (by simp)).alloc _).alloc _).alloc _))
     · (first | exact Blok.drew' (Blok.new' (by simp)) | exact Blok.drew' ((Blok.new' (by simp)).alloc _) | exact Blok.drew' (((Blok.new' (by simp)).alloc _).alloc _) | exact Blok.drew' ((((Blok.new' (by simp)).alloc _).alloc _).alloc _))
     · (first | exact Blok.drew' (Blok.new' (by simp)) | exact Blok.drew' ((Blok.new' (by simp)).alloc _) | exact Blok.drew' (((Blok.new' (by simp)).alloc _).alloc _) | exact Blok.drew' ((((Blok.new' (by simp)).alloc _).alloc _).alloc _))
     · (first | exact Blok.drew' (Blok.new' (by simp)) | exact Blok.drew' ((Blok.new' (by simp)).alloc _) | exact Blok.drew' (((Blok.new' (by simp)).alloc _).alloc _) | exact Blok.drew' ((((Blok.new' (by simp)).alloc _).alloc _).alloc _))
     · exact ((((HB0.out.alloc (by omega) _).alloc (by simp; omega) _).alloc (by simp; omega) _).alloc (by simp; omega) _).drew
     · rw [HGD.out]; exact HLT.out
  case rest =>
    obtain ⟨X, vh, vq, rfl, hX, hline, hbel⟩ := hcut
    have c0 := hX.cell 0
    have c1 := hX.cell 1
    have c2 := hX.cell 2
    have c3 := hX.cell 3
    have c4 := hX.cell 4
    simp only [List.getElem?_cons_zero, List.getElem?_cons_succ] at c0 c1 c2 c3 c4
    have HLN := Lib.hid hline
    have HBW := Lib.hid hbel
    have hne : marksOf (L.alone q s) ≠ 81 := by have := HM.out; omega
    have HNE := Lib.hid hne
    clear hX hline hbel hne h5
    go_wp2_with fail
    refine (marks_any _ (L.alone q s) _ HOK.out HLN.out).mono ?_
    rintro e w5 ⟨hb5, ⟨h81, -⟩ | ⟨-, rfl⟩⟩
    · exact absurd h81 HNE.out
    rw [HM.out]
    have HB5 := Lib.hid hb5
    clear hb5 c0 c1 c2 c3 c4
    go_wp2_with fail
    go_ret
    exact ⟨rfl, HBW.out.trans (HB5.out.mono HBW.out.size)⟩
end Go.Proofs.Ytopflajbdkeaoaa
