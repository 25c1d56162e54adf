/- SightSure: what is printed, piece by piece. -/
import Derived.Test.YtcemefojpaicoaaDoorR
namespace Go.Proofs.YtcemefojpaicoaaDoor
open Go.RowKit Go.Shelf

theorem printTo_append (a b : List ByteArray) : ∃ r : ByteArray, printTo (a ++ b) = printTo a ++ r := by
  induction b generalizing a with
  | nil => exact ⟨⟨#[]⟩, by
      rw [List.append_nil]
      exact ByteArray.ext (by simp)⟩
  | cons x b ih =>
    obtain ⟨r, hr⟩ := ih (a ++ [x])
    refine ⟨piece x ++ r, ?_⟩
    rw [show a ++ x :: b = a ++ [x] ++ b by simp, hr, printTo_snoc, ByteArray.append_assoc]
theorem printTo_at (ts : List ByteArray) (k : Nat) (x : ByteArray) (hx : ts[k]? = some x) : ∃ r : ByteArray, printTo ts = printTo (ts.take k) ++ (piece x ++ r) := by
  obtain ⟨hk, e⟩ := List.getElem?_eq_some_iff.1 hx
  obtain ⟨r, hr⟩ := printTo_append (ts.take (k + 1)) (ts.drop (k + 1))
  refine ⟨r, ?_⟩
  rw [List.take_append_drop, List.take_succ_eq_append_getElem hk, e, printTo_snoc, ByteArray.append_assoc] at hr
  exact hr
theorem orderText_pos {zs : List (Fin 256)} {z : Fin 256} (h : z ∈ zs) : 1 ≤ (orderText zs).size := by
  have h1 : z.val ∈ orderOf zs := mem_orderOf.2 ⟨z, h, rfl⟩
  have h2 : 1 ≤ (orderOf zs).length := List.length_pos_of_mem h1
  show 1 ≤ (((orderOf zs).map UInt8.ofNat).toArray).size
  simpa using h2
theorem letters_at (L : Line) (k : Nat) (hk : k < L.squares.length) : (lettersOf L)[k]? = some (orderText (allLetters L k)) := by
  simp [lettersOf, hk]
theorem extract_mid (q p r : ByteArray) (n : Nat) (hn : n = q.size + p.size) : (q ++ (p ++ r)).extract q.size n = p := by
  subst hn
  apply ByteArray.ext
  apply Array.toList_inj.1
  have e0 : ((q ++ (p ++ r)).extract q.size (q.size + p.size)).data.toList = ((q ++ (p ++ r)).data.toList.drop q.size).take p.size := by
    rw [ByteArray.data_extract, Array.toList_extract, List.extract_eq_take_drop, Nat.add_sub_cancel_left]
  have e1 : q.size = q.data.toList.length := by rw [Array.length_toList]; rfl
  have e2 : p.size = p.data.toList.length := by rw [Array.length_toList]; rfl
  rw [e0, ByteArray.data_append, ByteArray.data_append, Array.toList_append, Array.toList_append, e1, e2, List.drop_left, List.take_left]
theorem same_mid {P q p r : ByteArray} (h : P = q ++ (p ++ r)) (n : Nat) (hn : n = q.size + p.size) : ((P.extract q.size n).toList == p.toList) = true := by
  rw [h, extract_mid q p r n hn]
  simp
theorem brace_size (x : ByteArray) : ((⟨#[123]⟩ : ByteArray) ++ x ++ ⟨#[125]⟩).size = 1 + x.size + 1 := by
  rw [ByteArray.size_append, ByteArray.size_append]
  rfl
theorem dash_list : (⟨#[45]⟩ : ByteArray).toList = [45] := by decide +kernel
theorem orderText_le (zs : List (Fin 256)) : (orderText zs).size ≤ 256 := by
  have h := orderOf_len zs
  show (((orderOf zs).map UInt8.ofNat).toArray).size ≤ 256
  simpa using h
theorem ne_empty {x : ByteArray} (h : 1 ≤ x.size) : ¬ x = ByteArray.empty := by
  rintro rfl
  simp at h
end Go.Proofs.YtcemefojpaicoaaDoor
