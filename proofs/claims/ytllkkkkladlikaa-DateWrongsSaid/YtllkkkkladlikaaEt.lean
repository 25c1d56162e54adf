/- Wrong. -/
import Derived.Test.YtllkkkkladlikaaEm
import Derived.Shelf.SlSortCmp.Whole1
import Derived.Test.YtllkkkkladlikaaShelf
namespace Go.Proofs.Ytllkkkkladlikaa
open Go.RowKit Go.Shelf Go.Sort Dt

theorem enters_cmp : ∀ args w, (callFunc 73 args).run Try.prog w = .ok (.enter 73 args) w := enters_of Try.func73 (by kernel_rfl) rfl
theorem sort_any (g N : Nat) (w : World) (hN : N ≤ 256) (hb : Blok w g 91 (rowL N N)) :
    Calls Try.prog 72 #[.slice (some ⟨g, 0, none⟩) N N, .func (.func 73) #[] #[]] w (SortPost g N w) :=
  sort_of (fun blk cap d w hH hblk hsz => by
    have h := Any.slices_SortFunc Try.sortS encF (fun _ => rfl) cmpF swo_cmp 73 #[] blk 0 cap d w enters_cmp (cmp_lays blk d.size w) hH hblk hsz
    exact h) g N w hN hb
theorem sets_any (n : Nat) (hn : n ≤ 8) (w : World) : Calls Try.prog 60 #[.int .i64 n] w (SetsPost n w) := sets_of (fun g N w hN hb => sort_any g N w hN hb) n hn w
theorem wrong_any (d : Dat) (hd : d.Ok) (v : Value) (B0 : Nat) (w : World) (hB0 : B0 ≤ w.heap.size) (hv : DatAt w B0 v d) : Calls Try.prog 35 #[v] w (WrongPost d w) :=
  wrong_of (fun n hn w => sets_any n hn w) d hd v B0 w hB0 hv
end Go.Proofs.Ytllkkkkladlikaa
