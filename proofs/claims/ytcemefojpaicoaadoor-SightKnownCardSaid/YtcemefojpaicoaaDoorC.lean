/- What each letter of a hand needs in each square. -/
import Derived.Test.YtcemefojpaicoaaDoorB
import Derived.Deep.LoopGhost
namespace Go.Proofs.YtcemefojpaicoaaDoor
open Go.RowKit

/-- 64 needs: those of the squares and letters that there are, as 'cost' says; so far those of the squares below k, and of k those of the letters below j. -/
def NeedsTo (L : Line) (S : List Shape) (k j : Nat) (N : List Value) : Prop :=
  N.length = 64 ∧ (∀ u ∈ N, u.oneCell' = true) ∧ ∀ (q i : Nat) (ls : List Light) (s : Shape), (q < k ∨ q = k ∧ i < j) → L.squares[q]? = some ls → S[i]? = some s → N[q * 8 + i]? = some (.int .i64 (cost L.worn L.scr ls s.strokes))
def Needs (L : Line) (S : List Shape) (N : List Value) : Prop := NeedsTo L S L.squares.length 0 N
def NeededPost (L : Line) (S : List Shape) (w : World) (e : Ending) (w' : World) : Prop := ∃ N : List Value, e = .returned (.agg N.toArray) ∧ Needs L S N ∧ Below w.heap.size w w'

/-- What holds of the world within the loops of 'needed'. -/
def NeedI (w : World) (l : List Value) (L : Line) (S : List Shape) (k j : Nat) (wr : World) : Prop :=
  Below w.heap.size w wr ∧ Blok wr w.heap.size 25 l ∧ (∃ Z : List Value, Z.length = 64 ∧ Blok wr (w.heap.size + 1) 70 Z) ∧ ∃ N : List Value, Blok wr (w.heap.size + 1 + 1) 70 N ∧ NeedsTo L S k j N

theorem NeedsTo.next {L : Line} {S : List Shape} {k j : Nat} {N : List Value} (h : NeedsTo L S k j N) (hj : S.length ≤ j) : NeedsTo L S (k + 1) 0 N :=
  ⟨h.1, h.2.1, fun q i ls s hq hl hs => h.2.2 q i ls s (by
    have : i < S.length := (List.getElem?_eq_some_iff.1 hs).1
    omega) hl hs⟩
theorem NeedsTo.put {L : Line} {S : List Shape} {k j : Nat} {N : List Value} (h : NeedsTo L S k j N) (hk : k < 8) (hj : j < 8) (hS : S.length ≤ 8) {ls : List Light} {s : Shape} (hl : L.squares[k]? = some ls) (hs : S[j]? = some s) (x : Nat)
    (hx : x = cost L.worn L.scr ls s.strokes) : NeedsTo L S k (j + 1) (N.set (k * 8 + j) (.int .i64 x)) := by
  refine ⟨by simpa using h.1, fun u hu => ?_, fun q i ls' s' hq hl' hs' => ?_⟩
  · rcases List.mem_or_eq_of_mem_set hu with hu | rfl
    · exact h.2.1 u hu
    · rfl
  · have hi : i < S.length := (List.getElem?_eq_some_iff.1 hs').1
    by_cases e : q = k ∧ i = j
    · obtain ⟨rfl, rfl⟩ := e
      rw [hl] at hl'
      rw [hs] at hs'
      obtain rfl : ls = ls' := by injection hl'
      obtain rfl : s = s' := by injection hs'
      rw [List.getElem?_set_self (by rw [h.1]; omega), hx]
    · rw [List.getElem?_set_ne (by omega)]
      exact h.2.2 q i ls' s' (by omega) hl' hs'
theorem three (w : World) (a b c : List Value) (s t u : TypeId) : Blok (((w.alloc (.cells a.toArray s)).alloc (.cells b.toArray t)).alloc (.cells c.toArray u)) w.heap.size s a ∧
    Blok (((w.alloc (.cells a.toArray s)).alloc (.cells b.toArray t)).alloc (.cells c.toArray u)) (w.heap.size + 1) t b ∧
    Blok (((w.alloc (.cells a.toArray s)).alloc (.cells b.toArray t)).alloc (.cells c.toArray u)) (w.heap.size + 1 + 1) u c := by
  have h1 := ((Blok.new w s a).alloc (.cells b.toArray t)).alloc (.cells c.toArray u)
  have h2 := (Blok.new (w.alloc (.cells a.toArray s)) t b).alloc (.cells c.toArray u)
  have h3 := Blok.new ((w.alloc (.cells a.toArray s)).alloc (.cells b.toArray t)) u c
  simp only [World.size_alloc] at h2 h3
  exact ⟨h1, h2, h3⟩
def zeros : List Value := List.replicate 64 (.int .i64 0)
theorem NeedI.start (w : World) (l : List Value) (L : Line) (S : List Shape) : NeedI w l L S 0 0 (((w.alloc (.cells l.toArray 25)).alloc (.cells zeros.toArray 70)).alloc (.cells zeros.toArray 70)) := by
  obtain ⟨h1, h2, h3⟩ := three w l zeros zeros 25 70 70
  refine ⟨(((Below.refl _ _).alloc (Nat.le_refl _) _).alloc (by simp) _).alloc (by simp; omega) _, h1, ⟨zeros, rfl, h2⟩, zeros, h3, rfl, fun u hu => ?_, fun q i ls s h => by omega⟩
  rw [List.eq_of_mem_replicate hu]
  rfl

theorem NeedI.step {w wr : World} {l : List Value} {L : Line} {S : List Shape} {k j : Nat} (h : NeedI w l L S k j wr) (hk : k < 8) (hj : j < 8) (hS : S.length ≤ 8) {ls : List Light} {s : Shape} (hl : L.squares[k]? = some ls) (hs : S[j]? = some s)
    (ob : Obj) (nq : Nat) (v : Value) (hv : v = .int .i64 (cost L.worn L.scr ls s.strokes)) : NeedI w l L S k (j + 1) (((wr.alloc ob).drewN nq).setCell ⟨w.heap.size + 1 + 1, k * 8 + j, none⟩ v) := by
  obtain ⟨i1, i2, ⟨Z, z1, z2⟩, N, n1, n2⟩ := h
  subst hv
  exact ⟨(below_drewN (i1.alloc i1.size _) _).setCell (by simp; omega) _, ((i2.alloc ob).drewN nq).far (by simp; omega) _, ⟨Z, z1, ((z2.alloc ob).drewN nq).far (by simp) _⟩, _, ((n1.alloc ob).drewN nq).put _ _, n2.put hk hj hS hl hs _ rfl⟩
theorem NeedI.next {w wr : World} {l : List Value} {L : Line} {S : List Shape} {k j : Nat} (h : NeedI w l L S k j wr) (hj : S.length ≤ j) : NeedI w l L S (k + 1) 0 wr := by
  obtain ⟨i1, i2, z, N, n1, n2⟩ := h
  exact ⟨i1, i2, z, N, n1, n2.next hj⟩

set_option maxHeartbeats 2000000 in
set_option maxRecDepth 100000 in
theorem needed_any (v sv : Value) (L : Line) (S : List Shape) (w : World) (hL : L.ok) (hv : LineAt w w.heap.size v L) (hS : S.length ≤ 8) (hSok : ∀ s ∈ S, s.ok) (hs : Shapes w w.heap.size sv S) :
    Calls Tryd.prog 33 #[v, sv] w (NeededPost L S w) := by
  obtain ⟨vh, vs, rfl, -, hq⟩ := hv
  obtain ⟨AS, cS, rfl, hA⟩ := hs
  obtain ⟨AQ, cQ, rfl, hQ⟩ := hq
  obtain ⟨m, hm⟩ : ∃ m, m = L.squares.length := ⟨_, rfl⟩
  obtain ⟨n, hn⟩ : ∃ n, n = S.length := ⟨_, rfl⟩
  have m8 : m ≤ 8 := by rw [hm]; exact hL.2.2.2.2.2.2.2.1
  rw [← hm] at hQ ⊢
  rw [← hn] at hA hS ⊢
  have HM := Lib.hid hm
  have HN := Lib.hid hn
  have HL := Lib.hid hL
  clear hm hn hL
  go_enter Tryd.func33, Tryd.ntmps33
  go_wp2_with fail
  have hst := NeedI.start w [vh, .int .i64 L.worn, .int .i64 L.scr, .int .i64 L.total, .slice AQ m cQ] L S
  go_loopw [20] (fun i wr => ∃ k : Nat, k ≤ m ∧ i = .int .i64 k ∧ NeedI w [vh, .int .i64 L.worn, .int .i64 L.scr, .int .i64 L.total, .slice AQ m cQ] L S k 0 wr) (fun i _ => m - (intOf i).toNat)
  case atStart => exact ⟨0, by omega, rfl, hst⟩
  case round =>
    clear hst
    obtain ⟨k, hk, rfl, hI⟩ := hrel
    by_cases hlt : k < m
    · obtain ⟨b, o, rfl, hB, hc⟩ := hQ (by omega)
      have hkq : k < L.squares.length := by rw [← HM.out]; exact hlt
      obtain ⟨ls, hls⟩ : ∃ ls, L.squares[k]? = some ls := ⟨_, List.getElem?_eq_getElem hkq⟩
      have hlsm := HL.out.2.2.2.2.2.2.2.2 ls (List.mem_of_getElem? hls)
      obtain ⟨lv, d1, hlv⟩ := hc k ls hls
      have d1 := bcell hI.1 hB d1
      have hlv1 := hlv.keep (Same.of_below hI.1) hI.1.size
      have HX := Lib.hid hls
      clear hls hc
      have v1 : vis ls < 1024 := vis_lt ls fun x hx => (hlsm.2 x hx).2.1
      have v2 : hidn ls < 1024 := hidn_lt ls fun x hx => (hlsm.2 x hx).1
      go_wp2_with fail
      refine (evidence_any lv ls _ hlsm.1 hlsm.2 hlv1).mono ?_
      rintro e w1 ⟨rfl, hb1⟩
      go_wp2_with fail
      refine (common_any _ _ (by omega) (by omega) _).mono ?_
      rintro e w2 ⟨rfl, k2, rfl⟩
      have hI2 : NeedI w [vh, .int .i64 L.worn, .int .i64 L.scr, .int .i64 L.total, .slice (some ⟨b, o, none⟩) m cQ] L S k 0 (w1.drewN k2) := by
        obtain ⟨i1, i2, ⟨Z, z1, z2⟩, N, n1, n2⟩ := hI
        exact ⟨below_drewN (i1.trans (hb1.mono i1.size)) _, (i2.below hb1 i2.size).drewN k2, ⟨Z, z1, (z2.below hb1 z2.size).drewN k2⟩, N, (n1.below hb1 n1.size).drewN k2, n2⟩
      clear hI hb1 hlv1 d1 hlv hlsm
      obtain ⟨W, hW⟩ : ∃ W, W = w1.drewN k2 := ⟨_, rfl⟩
      rw [← hW] at hI2 ⊢
      clear hW
      by_cases hcon : 0 < pc (vis ls &&& hidn ls)
      · go_wp2_with fail
        go_loopw [40] (fun i wr => ∃ j : Nat, j ≤ n ∧ i = .int .i64 j ∧ NeedI w [vh, .int .i64 L.worn, .int .i64 L.scr, .int .i64 L.total, .slice (some ⟨b, o, none⟩) m cQ] L S k j wr) (fun i _ => n - (intOf i).toNat)
        case atStart => exact ⟨0, by omega, rfl, hI2⟩
        case round =>
          clear hI2
          obtain ⟨j, hj, rfl, hI⟩ := hrel
          by_cases hjn : j < n
          · obtain ⟨b', o', rfl, hB', hc'⟩ := hA (by omega)
            have hjS : j < S.length := by rw [← HN.out]; exact hjn
            obtain ⟨s, hsj⟩ : ∃ s, S[j]? = some s := ⟨_, List.getElem?_eq_getElem hjS⟩
            have hsok := hSok s (List.mem_of_getElem? hsj)
            have s1 : s.strokes < 1024 := hsok.2.2.2
            obtain ⟨e1, e2⟩ := hc' j s hsj
            have e1 := bcell hI.1 hB' e1
            have e2 := bcell hI.1 hB' e2
            have HI := Lib.hid hI
            obtain ⟨i1, i2, ⟨Z, z1, z2⟩, N, n1, n2⟩ := hI
            have f1 : wr.cell? ⟨w.heap.size, 1, none⟩ = some (.int .i64 L.worn) := i2.cell 1
            have f2 : wr.cell? ⟨w.heap.size, 2, none⟩ = some (.int .i64 L.scr) := i2.cell 2
            have f0 := i2.size
            have f3 := n1.cell (k * 8 + j)
            have f4 := n1.free (k * 8 + j)
            have f5 := n1.size
            have f6 : k * 8 + j < N.length := by rw [n2.1]; omega
            rw [List.getElem?_eq_getElem f6] at f3
            have w16 := wrap16 s.strokes (by omega)
            have HS := Lib.hid hsj
            clear hsj hc' hsok i1 i2 z1 z2 n1 n2
            have HC := Lib.hid (@cost_con L.worn L.scr ls s.strokes hcon)
            go_wp2_with fail
            go_quiet (first | (go_at_call 41; exact Calls.quiet_of (beyond_any _ _ (by omega) _)) | (go_at_call 40; exact Calls.quiet_of (common_any _ _ (by omega) (by omega) _)))
            go_wp2
            go_roundw
            case rel => exact ⟨j + 1, by omega, by go_num, HI.out.step (by omega) (by omega) (by rw [← HN.out]; omega) HX.out HS.out _ _ _ (val_int (by rw [HC.out]; first | rfl | (push_cast; rfl)))⟩
            case measure => simp [intOf]; omega
          · obtain rfl : j = n := by omega
            go_wp2_with fail
            go_roundw
            case rel => exact ⟨k + 1, by omega, by go_num, hI.next (by rw [← HN.out]; omega)⟩
            case measure => simp [intOf]; omega
      · go_wp2_with fail
        go_loopw [40] (fun i wr => ∃ j : Nat, j ≤ n ∧ i = .int .i64 j ∧ NeedI w [vh, .int .i64 L.worn, .int .i64 L.scr, .int .i64 L.total, .slice (some ⟨b, o, none⟩) m cQ] L S k j wr) (fun i _ => n - (intOf i).toNat)
        case atStart => exact ⟨0, by omega, rfl, hI2⟩
        case round =>
          clear hI2
          obtain ⟨j, hj, rfl, hI⟩ := hrel
          by_cases hjn : j < n
          · obtain ⟨b', o', rfl, hB', hc'⟩ := hA (by omega)
            have hjS : j < S.length := by rw [← HN.out]; exact hjn
            obtain ⟨s, hsj⟩ : ∃ s, S[j]? = some s := ⟨_, List.getElem?_eq_getElem hjS⟩
            have hsok := hSok s (List.mem_of_getElem? hsj)
            have s1 : s.strokes < 1024 := hsok.2.2.2
            obtain ⟨e1, e2⟩ := hc' j s hsj
            have e1 := bcell hI.1 hB' e1
            have e2 := bcell hI.1 hB' e2
            have HI := Lib.hid hI
            obtain ⟨i1, i2, ⟨Z, z1, z2⟩, N, n1, n2⟩ := hI
            have f1 : wr.cell? ⟨w.heap.size, 1, none⟩ = some (.int .i64 L.worn) := i2.cell 1
            have f2 : wr.cell? ⟨w.heap.size, 2, none⟩ = some (.int .i64 L.scr) := i2.cell 2
            have f0 := i2.size
            have f3 := n1.cell (k * 8 + j)
            have f4 := n1.free (k * 8 + j)
            have f5 := n1.size
            have f6 : k * 8 + j < N.length := by rw [n2.1]; omega
            rw [List.getElem?_eq_getElem f6] at f3
            have w16 := wrap16 s.strokes (by omega)
            have HS := Lib.hid hsj
            clear hsj hc' hsok i1 i2 z1 z2 n1 n2
            by_cases g1 : L.scr < pc (diff (vis ls) s.strokes)
            · have HC := Lib.hid (@cost_scr L.worn L.scr ls s.strokes g1)
              go_wp2_with fail
              go_quiet (first | (go_at_call 41; exact Calls.quiet_of (beyond_any _ _ (by omega) _)) | (go_at_call 40; exact Calls.quiet_of (common_any _ _ (by omega) (by omega) _)))
              go_wp2
              go_roundw
              case rel => exact ⟨j + 1, by omega, by go_num, HI.out.step (by omega) (by omega) (by rw [← HN.out]; omega) HX.out HS.out _ _ _ (val_int (by rw [HC.out]; first | rfl | (push_cast; rfl)))⟩
              case measure => simp [intOf]; omega
            · by_cases g2 : L.worn < pc (hidn ls &&& s.strokes)
              · have HC := Lib.hid (@cost_worn L.worn L.scr ls s.strokes g2)
                go_wp2_with fail
                go_quiet (first | (go_at_call 41; exact Calls.quiet_of (beyond_any _ _ (by omega) _)) | (go_at_call 40; exact Calls.quiet_of (common_any _ _ (by omega) (by omega) _)))
                go_wp2
                go_roundw
                case rel => exact ⟨j + 1, by omega, by go_num, HI.out.step (by omega) (by omega) (by rw [← HN.out]; omega) HX.out HS.out _ _ _ (val_int (by rw [HC.out]; first | rfl | (push_cast; rfl)))⟩
                case measure => simp [intOf]; omega
              · have HC := Lib.hid (@cost_sum L.worn L.scr ls s.strokes hcon g1 g2)
                have p1 := pc_le (diff (vis ls) s.strokes) (Nat.lt_trans (diff_lt _ _ 10 v1) (by decide))
                have p2 := pc_le (hidn ls &&& s.strokes) (Nat.lt_of_le_of_lt Nat.and_le_left (by omega))
                go_wp2_with fail
                go_quiet (first | (go_at_call 41; exact Calls.quiet_of (beyond_any _ _ (by omega) _)) | (go_at_call 40; exact Calls.quiet_of (common_any _ _ (by omega) (by omega) _)))
                go_wp2
                go_roundw
                case rel => exact ⟨j + 1, by omega, by go_num, HI.out.step (by omega) (by omega) (by rw [← HN.out]; omega) HX.out HS.out _ _ _ (val_int (by rw [HC.out]; first | rfl | (push_cast; rfl)))⟩
                case measure => simp [intOf]; omega
          · obtain rfl : j = n := by omega
            go_wp2_with fail
            go_roundw
            case rel => exact ⟨k + 1, by omega, by go_num, hI.next (by rw [← HN.out]; omega)⟩
            case measure => simp [intOf]; omega
    · obtain rfl : k = m := by omega
      obtain ⟨i1, i2, ⟨Z, z1, z2⟩, N, n1, n2⟩ := hI
      have hsz : (Tryd.prog.info? 70).map (·.size) = some N.toArray.size := by rw [List.size_toArray, n2.1]; kernel_rfl
      have hzn : Z.toArray.size = N.toArray.size := by rw [List.size_toArray, List.size_toArray, n2.1, z1]
      have hN : Needs L S N := by unfold Needs; rw [← HM.out]; exact n2
      have h1 := all_oneCell_toArray n2.2.1
      clear n2 z1 i2
      go_wp2_with (first
        | (refine wpList_load_row rfl 70 (.tmp 5) rfl (w.heap.size + 1 + 1) rfl 70 N.toArray (0, 0) (.array 8 68) n1 (by kernel_rfl) rfl hsz ?_)
        | (refine wpList_store_row rfl 70 (.tmp 4) (.tmp 81) rfl (w.heap.size + 1) N.toArray rfl rfl 70 Z.toArray z2 hsz hzn h1 ?_))
      have n3 := z2.setRow N
      refine bodyPost_ret (v := .agg N.toArray) ?_ ?_ ?_
      · exact results_cell_row Tryd.results33 _ _ (w.heap.size + 1) 70 N.toArray (0, 0) (.array 8 68) rfl n3 (by kernel_rfl) rfl hsz
      · rfl
      · exact ⟨N, rfl, hN, below_setRow i1 (by omega) _⟩
end Go.Proofs.YtcemefojpaicoaaDoor
