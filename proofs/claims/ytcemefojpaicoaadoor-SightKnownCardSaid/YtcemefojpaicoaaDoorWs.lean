/- The sheet of a line as plain bytes, and one write to the builder. -/
import Derived.Test.YtcemefojpaicoaaDoorBw
import Derived.Test.YtcemefojpaicoaaDoorR
import Derived.Test.YtcemefojpaicoaaDoorShelf
import Derived.Lib.BufferKept
import Derived.Lib.AppendIntMem
import Derived.StillTailTactics
namespace Go.Proofs.YtcemefojpaicoaaDoor
open Go.RowKit Go.Shelf

def shapeText (s : Shape) : List UInt8 := 32 :: UInt8.ofNat s.letter :: Lib.itoa s.strokes
def handHead (h : Hand) : List UInt8 := [104, 97, 110, 100, 32] ++ Lib.itoa h.low ++ [32] ++ Lib.itoa h.high
def handText (h : Hand) : List UInt8 := handHead h ++ h.shapes.flatMap shapeText ++ [10]
def marksText (L : Line) : List UInt8 := [109, 97, 114, 107, 115, 32] ++ Lib.itoa L.worn ++ [32] ++ Lib.itoa L.scr ++ [32] ++ Lib.itoa L.total ++ [10]
def lightText (x : Light) : List UInt8 := 32 :: Lib.itoa x.shows ++ 47 :: Lib.itoa x.seen
def squareText (q : List Light) : List UInt8 := [115, 113, 117, 97, 114, 101] ++ q.flatMap lightText ++ [10]
def sheetOf (L : Line) : List UInt8 := L.hands.flatMap handText ++ marksText L ++ L.squares.flatMap squareText ++ [102, 105, 110, 105, 115, 10]
/-- All numbers of a line but the years have at most two digits. -/
def Line.small (L : Line) : Prop := L.worn < 100 ∧ L.scr < 100 ∧ L.total < 100 ∧ (∀ h ∈ L.hands, ∀ s ∈ h.shapes, s.strokes < 100) ∧ ∀ q ∈ L.squares, ∀ x ∈ q, x.shows < 100 ∧ x.seen < 100
theorem itoa_nat (n : Nat) : Lib.itoa (n : Int) = Lib.decDigits n := by
  unfold Lib.itoa
  rw [if_neg (by omega)]
  rfl

theorem decDigits_len : ∀ (k u : Nat), u < 10 ^ (k + 1) → (Lib.decDigits u).length ≤ k + 1
  | 0, u, h => by
    rw [Lib.decDigits, dif_pos (by simpa using h)]
    simp
  | k + 1, u, h => by
    rw [Lib.decDigits]
    split
    · simp
    · rw [List.length_append]
      have := decDigits_len k (u / 10) (by rw [Nat.pow_succ] at h; omega)
      simp; omega
theorem itoa_len (n : Int) (h0 : -10000 < n) (h1 : n < 10000) : (Lib.itoa n).length ≤ 5 := by
  unfold Lib.itoa
  split
  · have := decDigits_len 3 n.natAbs (by omega)
    simp; omega
  · have := decDigits_len 3 n.toNat (by omega)
    omega

theorem enc_letter : ∀ a : Nat, 65 ≤ a → a ≤ 90 → Utf8.encode (a : Int) = ⟨#[UInt8.ofNat a]⟩ := by
  intro a h1 h2
  have h : Utf8.valid (a : Int) = true := by unfold Utf8.valid; simp; omega
  unfold Utf8.encode
  simp only [h, if_true, Int.toNat_natCast]
  rw [if_pos (by omega)]

/-- The builder in block b holds these bytes. -/
def Bld (b : Nat) (l : List UInt8) (w : World) : Prop := Lib.IsBuilderF 78 5 b b (Lib.byteCells l) w
theorem Bld.lt {b : Nat} {l : List UInt8} {w : World} (h : Bld b l w) : b < w.heap.size := h.elim (fun x => x.lt) (fun x => x.lt)
theorem builderAt_below {T e : TypeId} {B b : Nat} {p : Value} {bs : List Value} {W W' : World} (h : Lib.BuilderAtF T e B b p bs W) (hb : Below W.heap.size W W') : Lib.BuilderAtF T e B b p bs W' := by
  have hlt := h.lt
  obtain ⟨hB, v, hv, hown, hne⟩ := h
  exact ⟨hB, v, (hb.block b hlt).trans hv, hown.kept (row := none) (below_grown hb) (Classical.em _), hne⟩
theorem Bld.below {b : Nat} {l : List UInt8} {w w' : World} (h : Bld b l w) (hb : Below w.heap.size w w') : Bld b l w' := h.elim (fun x => .inl (builderAt_below x hb)) (fun x => .inr (builderAt_below x hb))
theorem Bld.drew {b : Nat} {l : List UInt8} {w : World} (h : Bld b l w) : Bld b l w.drew := h
theorem Bld.alloc {b : Nat} {l : List UInt8} {w : World} (h : Bld b l w) (o : Obj) : Bld b l (w.alloc o) := Lib.IsBuilderF.alloc h o
theorem write_some (b : Nat) (l : List UInt8) (s : ByteArray) (w : World) (h : Bld b l w) (hlen : l.length + s.size ≤ 140737488355328) :
    Calls Tryd.prog 27 #[.pointer (some ⟨b, 0, none⟩), .string s] w fun e w' => e = .returned (.tuple #[.int .i64 s.size, .nilIface]) ∧ Bld b (l ++ s.data.toList) w' ∧ Below b w w' ∧ Lib.OthersKept 5 (some b) w w' := by
  refine (writeString b (Lib.byteCells l) s w h (by rw [Lib.byteCells_length]; exact hlen)).mono ?_
  rintro e w' ⟨rfl, h1, h2, h3⟩
  refine ⟨rfl, .inr ?_, h2, h3⟩
  rw [Lib.byteCells, List.map_append]
  exact h1
theorem itoa_some (n : Int) (h0 : -9223372036854775808 ≤ n) (h1 : n ≤ 9223372036854775807) (w : World) (B : Nat) (ht : Lib.TabBelow Tryd.prog B w "internal/strconv.uint64pow10" .u64 Lib.pow10Tab) :
    Calls Tryd.prog 28 #[.int .i64 n] w fun e w' => e = .returned (.string ⟨(Lib.itoa n).toArray⟩) ∧ Below w.heap.size w w' := by
  refine (Tryd.strconv_Itoa n h0 h1 w ht.here).mono ?_
  rintro e w' ⟨rfl, k, os, rfl⟩
  exact ⟨rfl, Lib.below_grow _ w (Nat.le_refl _) k os⟩
theorem itoa_small (n : Nat) (h : n < 100) (w : World) : Calls Tryd.prog 28 #[.int .i64 n] w fun e w' => e = .returned (.string ⟨(Lib.itoa n).toArray⟩) ∧ w' = w := by
  rw [itoa_nat]
  exact Tryd.strconv_Itoa_small n h w
theorem kept_cell {e : TypeId} {b g : Nat} {t : TypeId} {cs : List Value} {w w' : World} (h : Lib.OthersKept e (some b) w w') (hb : Blok w g t cs) (hg : g ≠ b) (ht : t ≠ e) : Blok w' g t cs :=
  h g _ hb (fun e => hg (Option.some.inj e)) (fun _ _ e => ht (by injection e))
theorem Bld.new (w : World) : Bld w.heap.size [] (w.alloc (.cells #[.pointer none, .slice none 0 0] 78)) :=
  .of (Lib.fresh_isBuilder 78 5 w)
theorem string_some (b : Nat) (l : List UInt8) (w : World) (h : Bld b l w) (h0 : l ≠ []) :
    Calls Tryd.prog 29 #[.pointer (some ⟨b, 0, none⟩)] w fun e w' => e = .returned (.string ⟨l.toArray⟩) ∧ Below b w w' := by
  refine (Any.Builder_String_k Tryd.lays169 Tryd.Builder_Extra_169 b b l w h h0).mono ?_
  rintro e w' ⟨rfl, h2⟩
  exact ⟨rfl, h2.2.1⟩
end Go.Proofs.YtcemefojpaicoaaDoor
