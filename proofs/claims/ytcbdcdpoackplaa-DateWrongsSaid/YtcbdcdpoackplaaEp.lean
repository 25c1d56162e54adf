/- What is left without some notes, plainly; the fewest notes of the dating G. -/
import Derived.Test.YtcbdcdpoackplaaEk
import Derived.Test.YtcbdcdpoackplaaDe
namespace Go.Proofs.Ytcbdcdpoackplaa
open Go.RowKit Dt

/-- A dating without some notes. -/
def Dat.sub (d : Dat) (s : Nat) : Dat := { d with notes := Dat.keptS d s }
theorem sub_ok {d : Dat} (h : d.Ok) (s : Nat) : (Dat.sub d s).Ok := by
  refine ⟨h.stones, h.eras, Nat.le_trans (keptTo_len d.notes s d.notes.length) h.notes.1, fun n hn => ?_⟩
  have := kept_ok h s n hn
  exact ⟨this.stone, this.kind, this.years, this.span, this.within, this.era, this.after⟩
theorem mayS_iff {d : Dat} (h : d.Ok) (s : Nat) : Dat.mayS d s = true ↔ (Dat.sub d s).may := by
  rw [may_iff (sub_ok h s), ← all_code (sub_ok h s)]
  unfold Dat.mayS Dat.leftS
  show (!(chooseP 10 ((Dat.sub d s).notes.map Nt.ways) (Dat.sub d s).unsaid).isEmpty) = true ↔ _
  cases chooseP 10 ((Dat.sub d s).notes.map Nt.ways) (Dat.sub d s).unsaid <;> simp
theorem mem_kept {d : Dat} {s i : Nat} {n : Nt} (hn : d.notes[i]? = some n) (hs : s.testBit i = false) : n ∈ Dat.keptS d s := by
  unfold Dat.keptS keptTo
  rw [List.mem_filterMap]
  exact ⟨i, List.mem_range.2 (List.getElem?_eq_some_iff.1 hn).1, by rw [hs]; simpa using hn⟩
theorem kept_mem {d : Dat} {s : Nat} {n : Nt} (hn : n ∈ Dat.keptS d s) : ∃ i, d.notes[i]? = some n ∧ s.testBit i = false := by
  unfold Dat.keptS keptTo at hn
  rw [List.mem_filterMap] at hn
  obtain ⟨i, -, hi⟩ := hn
  cases hs : s.testBit i
  · rw [hs] at hi
    exact ⟨i, by simpa using hi, hs⟩
  · rw [hs] at hi
    simp at hi
theorem exG_least (s : Nat) (h : Dat.Least exG s) : s = 32 := by
  have h32 : Dat.mayS exG 32 = true := by
    rw [mayS_iff exG_ok]
    have t1 := exD_truth 1 10 (-213) (-207) (-200) (-312) (by omega) (by omega) (by omega) (by omega) (by omega) (by omega)
    refine ⟨_, t1.zero, t1.base, fun n hn => t1.notes n ?_⟩
    have e : (Dat.sub exG 32).notes = (exD 1 10).notes := by rfl
    rw [← e]
    exact hn
  have hs64 : s < 64 := h.low
  have hle := h.least 32 (show 32 < 2 ^ exG.notes.length by decide) h32
  have hno : ∀ t, Dat.mayS exG t = true → t.testBit 5 = false → t.testBit 1 = false → False := by
    intro t ht h5 h1
    obtain ⟨x, hx⟩ := (mayS_iff exG_ok t).1 ht
    have n1 := hx.notes ⟨1, 1, 0, [-215, -207], 0, 0⟩ (mem_kept (i := 1) rfl h1)
    have n5 := hx.notes ⟨2, 1, 0, [], -190, -180⟩ (mem_kept (i := 5) rfl h5)
    simp [Nt.right] at n1 n5
    omega
  have hno2 : Dat.mayS exG 2 = true → False := by
    intro ht
    obtain ⟨x, hx⟩ := (mayS_iff exG_ok 2).1 ht
    have n0 := hx.notes ⟨3, 0, 0, [], 100, 100⟩ (mem_kept (i := 0) rfl (by decide))
    have n2 := hx.notes ⟨4, 1, 0, [], 1, 10⟩ (mem_kept (i := 2) rfl (by decide))
    have n5 := hx.notes ⟨2, 1, 0, [], -190, -180⟩ (mem_kept (i := 5) rfl (by decide))
    have h7 := hx.base 7 (by omega)
    simp [Nt.right, Dat.base, Dat.sub, exG] at n0 n2 n5 h7
    omega
  have hcase : ∀ t : Nat, t < 64 → cmpS t 32 ≤ 0 → t = 32 ∨ t = 2 ∨ (t.testBit 5 = false ∧ t.testBit 1 = false) := by decide +kernel
  rcases hcase s hs64 hle with h1 | rfl | ⟨h1, h2⟩
  · exact h1
  · exact absurd h.may hno2
  · exact absurd h.may (fun hm => hno s hm h1 h2)
end Go.Proofs.Ytcbdcdpoackplaa
