/- Spans out of the urn: around a number. -/
import Derived.Test.YtllkkkkladlikaaFa
import Derived.Test.YtllkkkkladlikaaEb
namespace Go.Proofs.Ytllkkkkladlikaa
open Go.RowKit

def BrPost (g : Nat) (n far : Int) (w : World) (e : Ending) (w' : World) : Prop :=
  ∃ lo hi : Int, e = .returned (.agg #[.int .i64 lo, .int .i64 hi]) ∧ -3000 ≤ lo ∧ lo ≤ n ∧ n ≤ hi ∧ hi ≤ 3000 ∧ n - max 3 far ≤ lo ∧ hi ≤ n + max 3 far ∧ UrnAt w' g ∧ Kg g w w'
set_option maxRecDepth 100000 in
set_option maxHeartbeats 1000000 in
theorem bracket_any (g : Nat) (n far : Int) (w : World) (n1 : -3000 ≤ n) (n2 : n ≤ 3000) (f1 : 0 ≤ far) (f2 : far ≤ 1000) (hu : UrnAt w g) :
    Calls Try.prog 40 #[.pointer (some ⟨g, 0, none⟩), .int .i64 n, .int .i64 far] w (BrPost g n far w) := by
  have HU := Lib.hid hu
  have hgz := hu.size
  clear hu
  go_enter Try.func40, Try.ntmps40
  go_wp2_with fail
  refine (up_any _ _ _ (by omega) (HU.out.alloc _)).mono ?_
  rintro e w1 ⟨r1, rfl, a1, hu1, hk1⟩
  have HU1 := Lib.hid hu1
  have HK1 := Lib.hid hk1
  have a1 : (r1 : Int) ≤ 3 := by omega
  clear hu1 hk1
  go_wp2_with fail
  refine (up_any _ _ _ (by omega) HU1.out).mono ?_
  rintro e w2 ⟨r2, rfl, a2, hu2, hk2⟩
  have HU2 := Lib.hid hu2
  have HK2 := Lib.hid (HK1.out.trans hk2)
  have a2 : (r2 : Int) ≤ far := by omega
  have h12 : (0 : Int) ≤ r1 := by omega
  have h22 : (0 : Int) ≤ r2 := by omega
  clear hu2 hk2
  go_wp2_with fail
  have hg2 := HU2.out.size
  refine (any_any g w2.heap.size 3 3 3 [0, (r1 : Int), (r2 : Int)] _ rfl (by simp) (by simp) (Blok.new w2 _ _) (by omega) (HU2.out.alloc _)).mono ?_
  rintro e w3 ⟨x, rfl, hx, hu3, hk3⟩
  have hx1 : 0 ≤ x ∧ x ≤ max 3 far := by
    simp at hx
    omega
  obtain ⟨x1, x2⟩ := hx1
  have HU3 := Lib.hid hu3
  have HK3 := Lib.hid ((HK2.out.alloc _).trans hk3)
  clear hu3 hk3 hx
  go_wp2_with fail
  all_goals
    refine (up_any _ _ _ (by omega) HU3.out).mono ?_
    rintro e w4 ⟨r3, rfl, a3, hu4, hk4⟩
    have HU4 := Lib.hid hu4
    have HK4 := Lib.hid (HK3.out.trans hk4)
    have a3 : (r3 : Int) ≤ 3 := by omega
    clear hu4 hk4
    go_wp2_with fail
    refine (up_any _ _ _ (by omega) HU4.out).mono ?_
    rintro e w5 ⟨r4, rfl, a4, hu5, hk5⟩
    have HU5 := Lib.hid hu5
    have HK5 := Lib.hid (HK4.out.trans hk5)
    have a4 : (r4 : Int) ≤ far := by omega
    have h13 : (0 : Int) ≤ r3 := by omega
    have h23 : (0 : Int) ≤ r4 := by omega
    clear hu5 hk5
    go_wp2_with fail
    have hg5 := HU5.out.size
    refine (any_any g w5.heap.size 3 3 3 [0, (r3 : Int), (r4 : Int)] _ rfl (by simp) (by simp) (Blok.new w5 _ _) (by omega) (HU5.out.alloc _)).mono ?_
    rintro e w6 ⟨y, rfl, hy, hu6, hk6⟩
    have hy1 : 0 ≤ y ∧ y ≤ max 3 far := by
      simp at hy
      omega
    obtain ⟨y1, y2⟩ := hy1
    have HU6 := Lib.hid hu6
    have HK6 := Lib.hid ((HK5.out.alloc _).trans hk6)
    clear hu6 hk6 hy
    have bl : Blok w6 w.heap.size 39 [.int .i64 0, .int .i64 0] := (Blok.new w _ _).kg HK6.out (by omega)
    have f0 := bl.free 0
    have f1 := bl.free 1
    have c0 := bl.cell 0
    have c1 := bl.cell 1
    simp at c0 c1
    have z6 := bl.size
    have x3 : 0 ≤ x ∧ x ≤ 1000 := by omega
    have y3 : 0 ≤ y ∧ y ≤ 1000 := by omega
    have x4 := x3.2
    have y4 := y3.2
    have HB6 := Lib.hid (fun a b : Int => (show Blok ((w6.setCell ⟨w.heap.size, 0, none⟩ (.int .i64 a)).setCell ⟨w.heap.size, 1, none⟩ (.int .i64 b)) w.heap.size 39 [.int .i64 a, .int .i64 b] from (bl.put 0 (.int .i64 a)).put 1 (.int .i64 b)))
    have HF6 := Lib.hid (fun (a b : Int) (p1 : -3000 ≤ a) (p2 : a ≤ n) (p3 : n ≤ b) (p4 : b ≤ 3000) (p5 : n - max 3 far ≤ a) (p6 : b ≤ n + max 3 far) => (show BrPost g n far w (.returned (.agg #[.int .i64 a, .int .i64 b])) ((w6.setCell ⟨w.heap.size, 0, none⟩ (.int .i64 a)).setCell ⟨w.heap.size, 1, none⟩ (.int .i64 b)) from ⟨a, b, rfl, p1, p2, p3, p4, p5, p6, (HU6.out.far (by simp; omega) _).far (by simp; omega) _, (((Kg.refl g w).alloc _).trans HK6.out).putNew (by simp) _ |>.putNew (by simp) _⟩))
    clear bl
    go_wp2_with fail
    all_goals
      refine bodyPost_ret (results_cell_row Try.results40 _ _ w.heap.size 39 _ (0, 0) _ rfl (HB6.out _ _) Try.underlying39 rfl (by kernel_rfl)) rfl (HF6.out _ _ (by omega) (by omega) (by omega) (by omega) (by omega) (by omega))
end Go.Proofs.Ytllkkkkladlikaa
