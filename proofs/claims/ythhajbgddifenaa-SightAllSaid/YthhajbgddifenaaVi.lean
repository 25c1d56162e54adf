/- Which strokes are visible: a stroke is worn, or one is scratched in, from the least on. -/
import Derived.Test.YthhajbgddifenaaTr
namespace Go.Proofs.Ythhajbgddifenaa

def hasBit (s k : Nat) : Bool := s / 2 ^ k % 2 == 1
theorem vis_step : ∀ (k : Fin 5) (s v : Fin 32), v.val / 2 ^ k.val = s.val / 2 ^ k.val →
    v.val / 2 ^ (k.val + 1) = s.val / 2 ^ (k.val + 1) ∧
    (hasBit s.val k.val = true → 2 ^ k.val ≤ v.val ∧ (v.val - 2 ^ k.val) / 2 ^ (k.val + 1) = s.val / 2 ^ (k.val + 1) ∧ pc (diff s.val (v.val - 2 ^ k.val)) = pc (diff s.val v.val) + 1 ∧ pc (diff (v.val - 2 ^ k.val) s.val) = pc (diff v.val s.val)) ∧
    (hasBit s.val k.val = false → v.val + 2 ^ k.val < 32 ∧ (v.val + 2 ^ k.val) / 2 ^ (k.val + 1) = s.val / 2 ^ (k.val + 1) ∧ pc (diff s.val (v.val + 2 ^ k.val)) = pc (diff s.val v.val) ∧ pc (diff (v.val + 2 ^ k.val) s.val) = pc (diff v.val s.val) + 1) := by
  decide +kernel
theorem pc_self : ∀ s : Fin 32, pc (diff s.val s.val) = 0 := by decide +kernel
/-- After k strokes: v is visible of s; a may yet be worn of wn, b scratched in of sc. -/
def VisAt (s wn sc k v a b : Nat) : Prop := s < 32 ∧ v < 32 ∧ v / 2 ^ k = s / 2 ^ k ∧ pc (diff s v) + a ≤ wn ∧ pc (diff v s) + b ≤ sc
theorem VisAt.start {s wn sc a b : Nat} (hs : s < 32) (ha : a ≤ wn) (hb : b ≤ sc) : VisAt s wn sc 0 s a b := by
  have h := pc_self ⟨s, hs⟩
  simp only at h
  exact ⟨hs, hs, rfl, by omega, by omega⟩
theorem VisAt.stay {s wn sc k v a b : Nat} (h : VisAt s wn sc k v a b) (hk : k < 5) : VisAt s wn sc (k + 1) v a b := by
  obtain ⟨h1, h2, h3, h4, h5⟩ := h
  exact ⟨h1, h2, (vis_step ⟨k, hk⟩ ⟨s, h1⟩ ⟨v, h2⟩ h3).1, h4, h5⟩
theorem VisAt.wear {s wn sc k v a b : Nat} (h : VisAt s wn sc k v a b) (hk : k < 5) (hb : hasBit s k = true) (ha : 0 < a) :
    2 ^ k ≤ v ∧ VisAt s wn sc (k + 1) (v - 2 ^ k) (a - 1) b ∧ pc (diff s (v - 2 ^ k)) + pc (diff (v - 2 ^ k) s) = pc (diff s v) + pc (diff v s) + 1 := by
  obtain ⟨h1, h2, h3, h4, h5⟩ := h
  obtain ⟨k1, k2, k3, k4⟩ := (vis_step ⟨k, hk⟩ ⟨s, h1⟩ ⟨v, h2⟩ h3).2.1 hb
  simp only at k1 k2 k3 k4
  exact ⟨k1, ⟨h1, Nat.lt_of_le_of_lt (Nat.sub_le _ _) h2, k2, by omega, by omega⟩, by omega⟩
theorem VisAt.scratch {s wn sc k v a b : Nat} (h : VisAt s wn sc k v a b) (hk : k < 5) (hb : hasBit s k = false) (ha : 0 < b) :
    v + 2 ^ k < 32 ∧ VisAt s wn sc (k + 1) (v + 2 ^ k) a (b - 1) ∧ pc (diff s (v + 2 ^ k)) + pc (diff (v + 2 ^ k) s) = pc (diff s v) + pc (diff v s) + 1 := by
  obtain ⟨h1, h2, h3, h4, h5⟩ := h
  obtain ⟨k1, k2, k3, k4⟩ := (vis_step ⟨k, hk⟩ ⟨s, h1⟩ ⟨v, h2⟩ h3).2.2 hb
  simp only at k1 k2 k3 k4
  exact ⟨k1, ⟨h1, k1, k2, by omega, by omega⟩, by omega⟩
end Go.Proofs.Ythhajbgddifenaa
