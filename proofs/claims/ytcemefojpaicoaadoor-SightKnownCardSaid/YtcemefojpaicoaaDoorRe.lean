/- sight.rest: how many letters fit the other squares at most if a letter of a square is known. -/
import Derived.Test.YtcemefojpaicoaaDoorKc
import Derived.Test.YtcemefojpaicoaaDoorQ
import Derived.Maps.OwnSet
import Derived.Deep.RegionHeld3
namespace Go.Proofs.YtcemefojpaicoaaDoor
open Go.RowKit Go.Shelf

/-- How many letters fit a square. -/
def setSize (cs : List Cutter) (m T q : Nat) : Nat := (orderOf (lettersG cs m T q)).length
/-- How many fit the squares below k but one. -/
def restSum (cs : List Cutter) (m T sq k : Nat) : Nat := ((List.range k).map fun o => if o = sq then 0 else setSize cs m T o).sum
theorem restSum_succ (cs : List Cutter) (m T sq k : Nat) : restSum cs m T sq (k + 1) = restSum cs m T sq k + if k = sq then 0 else setSize cs m T k := by simp [restSum, List.range_succ]
theorem restSum_le (cs : List Cutter) (m T sq k : Nat) : restSum cs m T sq k ≤ 256 * k := by
  induction k with
  | zero => simp [restSum]
  | succ k ih =>
    rw [restSum_succ]
    have := orderOf_len (lettersG cs m T k)
    unfold setSize
    split <;> omega
/-- The greatest rest over some letters. -/
def restOf (cs : List Cutter) (m T sq : Nat) (zs : List UInt8) : Nat := zs.foldl (fun a z => max a (restSum (cs.map (knownC sq z.toNat)) m T sq m)) 0
theorem restOf_snoc (cs : List Cutter) (m T sq : Nat) (zs : List UInt8) (z : UInt8) : restOf cs m T sq (zs ++ [z]) = max (restOf cs m T sq zs) (restSum (cs.map (knownC sq z.toNat)) m T sq m) := by simp [restOf]
theorem restOf_le (cs : List Cutter) (m T sq : Nat) (zs : List UInt8) (hm : m ≤ 8) : restOf cs m T sq zs ≤ 2048 := by
  have key : ∀ (zs : List UInt8) (a : Nat), a ≤ 2048 → zs.foldl (fun a z => max a (restSum (cs.map (knownC sq z.toNat)) m T sq m)) a ≤ 2048 := by
    intro zs
    induction zs with
    | nil => intro a h; exact h
    | cons z zs ih =>
      intro a h
      have := restSum_le (cs.map (knownC sq z.toNat)) m T sq m
      exact ih _ (by show max a (restSum (cs.map (knownC sq z.toNat)) m T sq m) ≤ 2048; omega)
  exact key zs 0 (by omega)

set_option maxRecDepth 100000 in
set_option maxHeartbeats 2000000 in
theorem rest_any (v : Value) (cv : Value) (L : Line) (cs : List Cutter) (hcok : ∀ c ∈ cs, c.ok) (hcl : cs.length ≤ 4) (P : Nat → Prop) (w : World) (hP : ∀ k, P k → k < w.heap.size) (hL : L.ok) (hv : LineAt w w.heap.size v L) (hc : Cuts w P L.squares.length cv cs)
    (sq : Nat) (hsq : sq < L.squares.length) (s : ByteArray) (hs : s.size ≤ 256) :
    Calls Tryd.prog 26 #[v, cv, .int .i64 sq, .string s] w fun e w' => e = .returned (.int .i64 (restOf cs L.squares.length L.total sq s.data.toList)) ∧ Below w.heap.size w w' := by
  have HV := Lib.hid hv
  have HC := Lib.hid hc
  have HP := Lib.hid hP
  have HL := Lib.hid hL
  have HCOK := Lib.hid hcok
  have HCL := Lib.hid hcl
  have hm8 : L.squares.length ≤ 8 := hL.2.2.2.2.2.2.2.1
  obtain ⟨vh, vs, rfl, hh, hq⟩ := hv
  obtain ⟨A, c, rfl, -⟩ := hh
  obtain ⟨AQ, cQ, rfl, -⟩ := hq
  obtain ⟨Ac, cc, rfl, -⟩ := hc
  clear hP hL hcok
  go_enter Tryd.func26, Tryd.ntmps26
  go_wp2_with fail
  go_loopw [9, 16] (fun a i wr => ∃ k : Nat, k ≤ s.size ∧ i = .int .i64 k ∧ a = .int .i64 (restOf cs L.squares.length L.total sq (s.data.toList.take k)) ∧ Below (w.heap.size + 1) (w.alloc (.cells #[.slice A L.hands.length c, .int .i64 L.worn, .int .i64 L.scr, .int .i64 L.total, .slice AQ L.squares.length cQ] 25)) wr) (fun _ i _ => s.size - (intOf i).toNat)
  case atStart => exact ⟨0, by omega, rfl, rfl, Below.refl _ _⟩
  case round =>
    obtain ⟨k, hk, rfl, rfl, hb⟩ := hrel
    have hz := hb.size
    simp only [World.size_alloc] at hz
    have HB := Lib.hid hb
    have hb0 : Below w.heap.size w wr := ((Below.refl _ _).alloc (Nat.le_refl _) _).trans (hb.mono (by omega))
    have HB0 := Lib.hid hb0
    have hbx := (Blok.new w 25 [.slice A L.hands.length c, .int .i64 L.worn, .int .i64 L.scr, .int .i64 L.total, .slice AQ L.squares.length cQ]).below hb (Nat.lt_succ_self _)
    have hrl := restOf_le cs L.squares.length L.total sq (s.data.toList.take k) hm8
    by_cases hlt : k < s.size
    · have l0 : wr.cell? ⟨w.heap.size, 0, none⟩ = some (.slice A L.hands.length c) := hbx.cell 0
      have l1 : wr.cell? ⟨w.heap.size, 1, none⟩ = some (.int .i64 L.worn) := hbx.cell 1
      have l2 : wr.cell? ⟨w.heap.size, 2, none⟩ = some (.int .i64 L.scr) := hbx.cell 2
      have l3 : wr.cell? ⟨w.heap.size, 3, none⟩ = some (.int .i64 L.total) := hbx.cell 3
      have l4 : wr.cell? ⟨w.heap.size, 4, none⟩ = some (.slice AQ L.squares.length cQ) := hbx.cell 4
      have hcw : Cuts wr.drew P L.squares.length (.slice Ac cs.length cc) cs := HC.out.keep (fun b o hb => HB0.out.cell (p := ⟨b, o, none⟩) (HP.out b hb)) (fun _ h => h)
      have HCW := Lib.hid hcw
      have HPW := Lib.hid (fun b (hb : P b) => show b < wr.drew.heap.size from Nat.lt_of_lt_of_le (HP.out b hb) (by show w.heap.size ≤ wr.heap.size; omega))
      have HOK2 := Lib.hid (show ∀ c ∈ cs.map (knownC sq s[k].toNat), c.ok from fun c hc => by
        obtain ⟨c0, h0, rfl⟩ := List.mem_map.1 hc
        exact knownC_ok _ _ (HCOK.out c0 h0))
      have HCL2 := Lib.hid (show (cs.map (knownC sq s[k].toNat)).length ≤ 4 by rw [List.length_map]; exact HCL.out)
      have k0 : (0 : Int) ≤ (k : Int) := by omega
      have k1 : (k : Int) < (s.size : Int) := by omega
      clear hb hb0 hbx hcw
      go_wp2_with fail
      go_region_held3 (fun w' => w'.cell? ⟨w.heap.size, 0, none⟩ = some (.slice A L.hands.length c) ∧ w'.cell? ⟨w.heap.size, 1, none⟩ = some (.int .i64 L.worn) ∧ w'.cell? ⟨w.heap.size, 2, none⟩ = some (.int .i64 L.scr) ∧ w'.cell? ⟨w.heap.size, 3, none⟩ = some (.int .i64 L.total) ∧ w'.cell? ⟨w.heap.size, 4, none⟩ = some (.slice AQ L.squares.length cQ))
        (first
          | go_keep
          | (refine ⟨?_, ?_, ?_, ?_, ?_⟩ <;> (refine (hb3.cell (p := ⟨_, _, none⟩) (by simp; try omega)).trans ?_; simp [*]))
          | (refine ⟨?_, ?_, ?_, ?_, ?_⟩ <;> (refine (hb2.cell (p := ⟨_, _, none⟩) (by simp; try omega)).trans ?_; simp [*])))
        (first
          | (go_at_call 34; refine (known_any _ cs HCOK.out HCL.out P _ HPW.out L.squares.length hm8 HCW.out sq hsq s[k].toNat).mono ?_; rintro e w2 ⟨cv2, rfl, hcut, hb2⟩; have HCUT := Lib.hid hcut; have hz2 : wr.heap.size ≤ w2.heap.size := hb2.size)
          | (go_at_call 30; refine (gatherG_any Unit _ _ L _ HOK2.out HCL2.out _ _ (fun b hb => hb) HL.out (HV.out.keep (Same.of_below (HB0.out.drew.trans (hb2.mono (by show w.heap.size ≤ wr.heap.size; omega)))) (by omega)) HCUT.out).mono ?_; rintro e w3 ⟨hb3, sb, mb, rfl, g1, g2, g3, g4, g5⟩))
      have HB3 := Lib.hid (HB.out.drew.trans ((hb2.mono (by show w.heap.size + 1 ≤ wr.heap.size; omega)).trans (hb3.mono (by omega))))
      have HG4 := Lib.hid g4
      have HG5 := Lib.hid g5
      clear g4 g5 hb2 hb3 l0 l1 l2 l3 l4
      obtain ⟨cs2, hcs2⟩ : ∃ cs2, cs2 = cs.map (knownC sq s[k].toNat) := ⟨_, rfl⟩
      rw [← hcs2] at HG5
      have HCS2 := Lib.hid hcs2
      clear hcs2
      go_wp2_with fail
      go_loop [11, 28] (fun a i => ∃ j : Nat, j ≤ L.squares.length ∧ i = .int .i64 j ∧ a = .int .i64 (restSum cs2 L.squares.length L.total sq j)) (fun _ i => L.squares.length - (intOf i).toNat)
      case atStart => exact ⟨0, by omega, rfl, rfl⟩
      case round =>
        obtain ⟨j, hj, rfl, rfl⟩ := hrel
        have hsl := restSum_le cs2 L.squares.length L.total sq j
        have hss := restSum_succ cs2 L.squares.length L.total sq j
        by_cases hjm : j < L.squares.length
        · have cm : w3.cell? ⟨sb, j, none⟩ = some (.map (some (mb + j))) := HG4.out j hjm
          have hown := HG5.out j hjm
          have hsz := setD_size (H := Unit) (lettersG cs2 L.squares.length L.total j)
          have hle := orderOf_len (lettersG cs2 L.squares.length L.total j)
          rw [← hsz] at hle
          have HSZ := Lib.hid hsz
          have HSS := Lib.hid hss
          have HOWN := Lib.hid hown
          have j0 : (0 : Int) ≤ (j : Int) := by omega
          have j1 : (j : Int) < (L.squares.length : Int) := by omega
          clear hsz hss hown
          by_cases hjs : j = sq
          · have t1 : ((j : Int) != sq) = false := by simp [hjs]
            have HJS := Lib.hid hjs
            clear hjs
            go_wp2
            go_round
            case rel => exact ⟨j + 1, by omega, by go_num, by rw [HSS.out, if_pos HJS.out]; rfl⟩
            case measure => simp [intOf]; omega
          · have t1 : ((j : Int) != sq) = true := by simp; omega
            have HJS := Lib.hid hjs
            clear hjs
            go_wp2_with (at_len; refine wpList_len_own _ rfl _ 87 rfl 5 4 Tryd.underlying87 _ (mb + j) _ _ rfl HOWN.out ?_)
            go_round
            case rel => exact ⟨j + 1, by omega, by go_num, by rw [HSS.out, if_neg HJS.out, setSize, ← HSZ.out]; go_num⟩
            case measure => simp [intOf]; omega
        · obtain rfl : j = L.squares.length := by omega
          have hmx := restOf_snoc cs L.squares.length L.total sq (s.data.toList.take k) s[k]
          have htk : s.data.toList.take (k + 1) = s.data.toList.take k ++ [s[k]] := by
            rw [List.take_succ_eq_append_getElem (by simpa using hlt)]; rfl
          rw [← htk, ← HCS2.out] at hmx
          have HMX := Lib.hid hmx
          clear hmx htk hss
          go_wp2
          all_goals
            go_roundw
            case rel => exact ⟨k + 1, by omega, by go_num, val_int (by rw [HMX.out]; omega), HB3.out⟩
            case measure => simp [intOf]; omega
    · obtain rfl : k = s.size := by omega
      have htk : s.data.toList.take s.size = s.data.toList := List.take_of_length_le (by rw [Array.length_toList]; exact Nat.le_refl _)
      rw [htk]
      clear htk hb0 hbx
      go_wp2_with fail
      go_ret
      exact ⟨rfl, ((Below.refl _ _).alloc (Nat.le_refl _) _).trans (hb.mono (by omega))⟩
end Go.Proofs.YtcemefojpaicoaaDoor
