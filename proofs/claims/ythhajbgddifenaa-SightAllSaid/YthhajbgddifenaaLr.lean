/- The end of a round of LineOf's second loop. -/
import Derived.Test.YthhajbgddifenaaLq
import Derived.Laws.BytesArg
namespace Go.Proofs.Ythhajbgddifenaa
open Go.RowKit Go.Shelf

theorem own_own {w : World} {b1 b2 s1 s2 n1 n2 : Nat} {e1 e2 : TypeId} {v1 v2 : Value} {x1 x2 : List Value} (h1 : w.ownsRow b1 e1 s1 v1 n1 x1) (h2 : w.ownsRow b2 e2 s2 v2 n2 x2) (hne : e1 ≠ e2) : v1.ownBlock = none ∨ v1.ownBlock ≠ v2.ownBlock := by
  rcases h1.2 with ⟨rfl, _⟩ | ⟨r, cap, cur, rfl, _, hg, _⟩
  · exact .inl rfl
  · right
    intro e
    have hb : Blok w r e1 cur.toList := by unfold Blok; rw [hg]
    exact own_ne_row h2 hb (fun e => hne e.symm) e.symm
/-- The memory of a line that is being made, and of the lights of the square at hand. -/
def LineM (g : Nat) (w wr : World) (lb cb r8 r9 base worn scr hand : Nat) (hs : List Hand) (vh vsq : Value) (lts : ByteArray) (vv : Value) (lvs : List Value) (qs : List (List Light)) (vs : List Nat) (lv : Value) (ql : List Light) : Prop :=
  Blok wr lb 25 (lineCells vh worn scr 0 vsq) ∧ Blok wr cb 32 (cutCells hand lts vv) ∧ Blok wr r8 25 zeroLine ∧ Blok wr r9 32 zeroCut ∧
    HandsN w.heap.size wr vh hs ∧ UrnAt wr g ∧ Kg g w wr ∧ wr.ownsRow base 39 1 vsq qs.length lvs ∧ SqN w.heap.size wr qs lvs ∧ wr.ownsRow base 3 1 vv vs.length (vs.map fun (x : Nat) => Value.int .i64 x) ∧ LightsN w.heap.size wr lv ql ∧ base ≤ wr.heap.size
theorem LineM.reg {g : Nat} {w wr W : World} {lb cb r8 r9 base worn scr hand sx letter v : Nat} {hs : List Hand} {vh vsq vv vo : Value} {lts lts' : ByteArray} {lvs : List Value} {qs : List (List Light)} {vs : List Nat} {lv : Value} {ql : List Light}
    (h : LineM g w wr lb cb r8 r9 base worn scr hand hs vh vsq lts vv lvs qs vs lv ql) (hW : w.heap.size ≤ base) (hcb : w.heap.size ≤ cb)
    (hr : RegF wr cb sx base lts vv letter vo (vs.length + 1) ((vs.map fun (x : Nat) => Value.int .i64 x) ++ [.int .i64 v]) W) (h8 : r8 ≠ cb) (h9 : r9 ≠ cb) :
    LineM g w ((W.setCell ⟨cb, 1, none⟩ (.string lts')).setCell ⟨cb, 2, none⟩ vo) lb cb r8 r9 base worn scr hand hs vh vsq lts' vo lvs qs (vs ++ [v]) lv ql := by
  obtain ⟨b1, b2, b3, b4, hh, hu, hk, ho1, hl, ho2, hq, hb⟩ := h
  obtain ⟨_, hg, ho3⟩ := hr
  have hrow : ∀ (b : Nat) (t : TypeId) (cs : List Value), Blok wr b t cs → t ≠ 3 → vv.ownBlock ≠ some b := fun b t cs hb ht => own_ne_row ho2 hb (fun e => ht e.symm)
  have c2 := b2.grown hg (hrow _ _ _ b2 (by decide))
  have c2' := c2.put 1 (.string lts')
  have hu2 := hu.grown hg (hu.own_ne ho2 (by decide))
  have hgu : g ≠ cb := (hu2.ne c2 (by decide)).symm
  have hlb : lb ≠ cb := blok_ne b1 b2 (by decide)
  have hk2 := hk.grown hg fun j e => Nat.le_trans hW (ho2.lt j e).1
  have ho1' := ho1.kept hg (own_own ho1 ho2 (by decide))
  have ho3' : vo.ownBlock ≠ some cb := own_ne_row ho3 c2 (by decide)
  refine ⟨((b1.grown hg (hrow _ _ _ b1 (by decide))).far hlb _).far hlb _, c2'.put 2 vo, ((b3.grown hg (hrow _ _ _ b3 (by decide))).far h8 _).far h8 _, ((b4.grown hg (hrow _ _ _ b4 (by decide))).far h9 _).far h9 _, ?_, (hu2.far hgu _).far hgu _, (hk2.putNew hcb _).putNew hcb _, own_far (own_far ho1' (own_ne_row ho1' c2 (by decide)) _) (own_ne_row ho1' c2 (by decide)) _, ?_, ?_, ?_, ?_⟩
  · exact ((hh.grown hg fun b t cs hb ht => hrow b t cs hb (by rcases ht with rfl | rfl <;> decide)).far (p := ⟨cb, 1, none⟩) c2 (by decide) (by decide) _).far (p := ⟨cb, 2, none⟩) c2' (by decide) (by decide) _
  · exact ((hl.grown hg fun b cs hb => hrow b _ cs hb (by decide)).far (p := ⟨cb, 1, none⟩) c2 (by decide) _).far (p := ⟨cb, 2, none⟩) c2' (by decide) _
  · rw [List.length_append, List.map_append]
    exact own_far (own_far ho3 ho3' _) ho3' _
  · exact ((hq.grown hg fun b cs hb => hrow b _ cs hb (by decide)).far (p := ⟨cb, 1, none⟩) c2 (by decide) _).far (p := ⟨cb, 2, none⟩) c2' (by decide) _
  · have := hg.size
    simp [World.setCell]
    omega
theorem LineM.put {g : Nat} {w wr W : World} {lb cb r8 r9 base worn scr hand gg cap : Nat} {hs : List Hand} {vh vsq vv : Value} {lts : ByteArray} {lvs : List Value} {qs : List (List Light)} {ks vs : List Nat} {lv : Value} {ql : List Light} {o : Obj} {S : List Shape}
    (h : LineM g w wr lb cb r8 r9 base worn scr hand hs vh vsq lts vv lvs qs vs lv ql) (hW : w.heap.size ≤ base) (hlb : w.heap.size ≤ lb) (hg : (wr.alloc o).grownBy W vsq.ownBlock)
    (ho : W.ownsRow base 39 1 (.slice (some ⟨gg, 0, none⟩) (qs.length + 1) cap) (qs.length + 1) (lvs ++ [lv])) (h8 : r8 ≠ lb) (h9 : r9 ≠ lb) (hle : lts.data.toList = lettersAt S ks) (hp : SqOk worn scr S (qs ++ [ql]) ks vs) :
    LineI g w (W.setCell ⟨lb, 4, none⟩ (.slice (some ⟨gg, 0, none⟩) (qs.length + 1) cap)) lb cb r8 r9 base worn scr hand hs vh S (qs ++ [ql]) ks vs := by
  obtain ⟨b1, b2, b3, b4, hh, hu, hk, ho1, hl, ho2, hq, hb⟩ := h
  have hbel := (Below.refl wr.heap.size wr).alloc (Nat.le_refl _) o
  have ho1a := ho1.alloc o
  have hrow : ∀ (b : Nat) (t : TypeId) (cs : List Value), Blok (wr.alloc o) b t cs → t ≠ 39 → vsq.ownBlock ≠ some b := fun b t cs hb ht => own_ne_row ho1a hb (fun e => ht e.symm)
  have c1 := (b1.alloc o).grown hg (hrow _ _ _ (b1.alloc o) (by decide))
  have hu2 := (hu.alloc o).grown hg ((hu.alloc o).own_ne ho1a (by decide))
  have hgu : g ≠ lb := (hu2.ne c1 (by decide)).symm
  have hcb : cb ≠ lb := blok_ne b2 b1 (by decide)
  have hk2 := (hk.alloc o).grown hg fun j e => Nat.le_trans hW (ho1a.lt j e).1
  have ho2' := (ho2.alloc o).kept hg (own_own (ho2.alloc o) ho1a (by decide))
  refine ⟨_, vv, lts, lvs ++ [lv], c1.put 4 _, ((b2.alloc o).grown hg (hrow _ _ _ (b2.alloc o) (by decide))).far hcb _, ((b3.alloc o).grown hg (hrow _ _ _ (b3.alloc o) (by decide))).far h8 _, ((b4.alloc o).grown hg (hrow _ _ _ (b4.alloc o) (by decide))).far h9 _, ?_, hu2.far hgu _, hk2.putNew hlb _, ?_, ?_, own_far ho2' (own_ne_row ho2' c1 (by decide)) _, hle, hp, ?_⟩
  · exact ((hh.below hbel).grown hg fun b t cs hb ht => hrow b t cs hb (by rcases ht with rfl | rfl <;> decide)).far (p := ⟨lb, 4, none⟩) c1 (by decide) (by decide) _
  · rw [List.length_append]
    exact own_far ho (own_ne_row ho c1 (by decide)) _
  · have h1 := (hl.below hbel).grown hg fun b cs hb => hrow b _ cs hb (by decide)
    have h2 := (hq.below hbel).grown hg fun b cs hb => hrow b _ cs hb (by decide)
    exact (h1.snoc h2).far (p := ⟨lb, 4, none⟩) c1 (by decide) _
  · have := hg.size
    simp [World.setCell] at this ⊢
    omega
theorem info_lights : (Try.prog.info? 39).map (fun i => (i.zero, i.size, i.bytes)) = some (some (.slice none 0 0), 1, 24) := by kernel_rfl
theorem letters_snoc {lts : ByteArray} {S : List Shape} {ks : List Nat} {k : Nat} {s : Shape} (h : lts.data.toList = lettersAt S ks) (hs : S[k]? = some s) (b : ByteArray) (hb : b.data.toList = lts.data.toList ++ [UInt8.ofNat s.letter]) : b.data.toList = lettersAt S (ks ++ [k]) := by
  rw [hb, h]
  simp [lettersAt, List.getD, hs]
theorem nums_one (x : Nat) : (strOfNums [(x : Int)]).data.toList = [UInt8.ofNat x] := by simp [strOfNums]
theorem cat_short {worn scr : Nat} {lts : ByteArray} {S : List Shape} {qs : List (List Light)} {ks vs : List Nat} (h : lts.data.toList = lettersAt S ks) (hp : SqOk worn scr S qs ks vs) (x : Nat) (hq : qs.length ≤ 8) : ¬ 9223372036854775807 < lts.size + (strOfNums [(x : Int)]).size := by
  have h1 : lts.size = ks.length := by
    show lts.data.size = _
    rw [← Array.length_toList, h]
    simp [lettersAt]
  have h2 : (strOfNums [(x : Int)]).size = 1 := by
    show (strOfNums [(x : Int)]).data.size = _
    rw [← Array.length_toList, nums_one]
    rfl
  have := hp.1
  omega
theorem cat_letters (lts : ByteArray) (x : Nat) : (lts ++ strOfNums [(x : Int)]).data.toList = lts.data.toList ++ [UInt8.ofNat x] := by
  rw [← nums_one x, ByteArray.data_append, Array.toList_append]
end Go.Proofs.Ythhajbgddifenaa
