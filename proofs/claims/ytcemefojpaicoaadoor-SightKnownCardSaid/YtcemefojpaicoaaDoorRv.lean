/- A region that draws its order, with two facts on the worlds between: U holds behind each operation, S behind each that is not late. What U alone answers is taken first, whatever waits for it. -/
import Derived.Deep.RegionHeld3
import Derived.StillTail
namespace Go.Proofs.YtcemefojpaicoaaDoor
open Go

section
variable {P : Program} {ops : Array Oper} {Q : Exit → Act → World → Prop} {md : Region.Mode} {S U : World → Prop} {late : Nat → Bool}
/-- Whatever order is picked from here on; S holds behind each operation that is carried out, but the late ones. -/
def wpAnyU (P : Program) (md : Region.Mode) (ops : Array Oper) (Q : Exit → Act → World → Prop) (S U : World → Prop) (late : Nat → Bool) : Nat → Array Bool → Act → World → Prop
  | 0, listed, a, w => Region.ready md ops listed = [] ∧ Q .normal a w
  | fuel + 1, listed, a, w =>
    (Region.ready md ops listed = [] → Q .normal a w) ∧
    ∀ i ∈ Region.ready md ops listed, wpOp P ops Q i (fun a' w' => U w' ∧ (late i = false → S w') ∧ wpAnyU P md ops Q S U late fuel (listed.setIfInBounds i true) a' w') a w
theorem wpAny_of_u : ∀ (fuel : Nat) (listed : Array Bool) (a : Act) (w : World), wpAnyU P md ops Q S U late fuel listed a w → wpAny P md ops Q fuel listed a w
  | 0, _, _, _, h => h
  | fuel + 1, _, _, _, h => ⟨h.1, fun i hi => wpOp_mono (fun a' w' h' => wpAny_of_u fuel _ a' w' h'.2.2) (h.2 i hi)⟩
/-- Do all late operations that have not come up wait for number i? -/
def lateWait (md : Region.Mode) (ops : Array Oper) (late : Nat → Bool) (listed : Array Bool) (i : Nat) : Bool := (List.range ops.size).all fun j => !late j || listed.getD j true || Region.waitsFor md ops j i
theorem lateWait_spec {i j : Nat} {oj : Oper} {listed : Array Bool} (h : lateWait md ops late listed i = true) (hj : ops[j]? = some oj) (hl : late j = true) (hu : listed.getD j true = false) : ∃ e ∈ oj.after, Region.binds md e = true ∧ e.on = i := by
  unfold lateWait at h
  have h1 := List.all_eq_true.1 h j (List.mem_range.2 (by
    rcases Nat.lt_or_ge j ops.size with h' | h'
    · exact h'
    · rw [Array.getElem?_eq_none h'] at hj; cases hj))
  rw [hl, hu] at h1
  obtain ⟨oj', h2, h3⟩ := Region.waitsFor_spec (by simpa using h1)
  rw [hj] at h2
  injection h2 with h2
  subst h2
  exact h3
theorem unlisted_of_set {listed : Array Bool} {j k : Nat} (hjun : listed.getD j true = false) (hun : (listed.setIfInBounds j true).getD k true = false) : listed.getD k true = false := by
  by_cases hjk : j = k
  · subst hjk; exact hjun
  · rw [getD_set_ne true hjk] at hun; exact hun
/-- The law of both takes: either number i is late and yields in every world, or S holds till it has come up. -/
theorem wpAnyU_first {i : Nat} {oi : Oper} {v : Value} {T : World → Prop} (hi : ops[i]? = some oi) (hsel : ∀ (j : Nat) (o : Oper) cs b, ops[j]? = some o → o.op ≠ .select cs b)
    (hQ : ∀ c a w, Q (.panic c) (a.put oi.dst v) w → Q (.panic c) a w) :
    ∀ (fuel : Nat) (listed : Array Bool) (a : Act) (w : World),
      (late i = true ∧ (∀ w, U w → T w) ∨ (∀ w, S w ↔ T w) ∧ ∀ j oj, ops[j]? = some oj → late j = true → listed.getD j true = false → ∃ e ∈ oj.after, Region.binds md e = true ∧ e.on = i) →
      (∀ j oj, ops[j]? = some oj → j ≠ i → listed.getD j true = false → (∀ e ∈ oj.after, Region.binds md e = true → e.on ≠ i) → oi.apart ops oj = true) →
      i ∈ Region.ready md ops listed → YieldsIf P ops T oi v a → U w → T w →
      wpAnyU P md ops Q S U late fuel (listed.setIfInBounds i true) (a.put oi.dst v) w → wpAnyU P md ops Q S U late (fuel + 1) listed a w := by
  have back : ∀ {listed : Array Bool} {w : World}, (late i = true ∧ (∀ w, U w → T w) ∨ (∀ w, S w ↔ T w) ∧ ∀ j oj, ops[j]? = some oj → late j = true → listed.getD j true = false → ∃ e ∈ oj.after, Region.binds md e = true ∧ e.on = i) → T w → late i = false → S w := by
    intro listed w hc hT hl
    rcases hc with ⟨h, _⟩ | ⟨h, _⟩
    · rw [h] at hl; cases hl
    · exact (h w).2 hT
  intro fuel
  induction fuel with
  | zero =>
    intro listed a w hc _ hr hy hU hS H
    refine ⟨fun h => (by rw [h] at hr; cases hr), fun j hj => ?_⟩
    by_cases hji : j = i
    · subst hji; exact hy.wpOp hi hS ⟨hU, back hc hS, H⟩
    · have := ready_mono hj hji
      rw [H.1] at this
      cases this
  | succ fuel ih =>
    intro listed a w hc hfree hr hy hU hS H
    refine ⟨fun h => (by rw [h] at hr; cases hr), fun j hj => ?_⟩
    by_cases hji : j = i
    · subst hji; exact hy.wpOp hi hS ⟨hU, back hc hS, H⟩
    · have g1 := H.2 j (ready_mono hj hji)
      obtain ⟨hjun, oj, hoj, hall⟩ := mem_ready.1 hj
      have hnot : ∀ e ∈ oj.after, Region.binds md e = true → e.on ≠ i := fun e he hb heq => by
        have k1 := hall e he hb
        have k0 := (mem_ready.1 hr).1
        rw [heq] at k1
        rcases Nat.lt_or_ge i listed.size with h' | h'
        · simp [h'] at k0 k1; rw [k0] at k1; cases k1
        · simp [Array.getElem?_eq_none h'] at k1
      have hnext : ∀ w', U w' → (late j = false → S w') → T w' := fun w' hu hs => by
        rcases hc with ⟨_, h⟩ | ⟨h, hl⟩
        · exact h w' hu
        · refine (h w').1 (hs ?_)
          cases hlj : late j with
          | false => rfl
          | true =>
            obtain ⟨e, he, hb, heq⟩ := hl j oj hoj hlj hjun
            exact absurd heq (hnot e he hb)
      have g2 := wpOp_putIf hoj (hfree j oj hoj hji hjun hnot) (fun cs b => hsel i oi cs b hi) (fun cs b => hsel j oj cs b hoj) hQ hy g1
      have hfree' : ∀ k ok, ops[k]? = some ok → k ≠ i → (listed.setIfInBounds j true).getD k true = false →
          (∀ e ∈ ok.after, Region.binds md e = true → e.on ≠ i) → oi.apart ops ok = true := fun k ok hk hki hun hno => hfree k ok hk hki (unlisted_of_set hjun hun) hno
      have hc' : late i = true ∧ (∀ w, U w → T w) ∨ (∀ w, S w ↔ T w) ∧ ∀ k ok, ops[k]? = some ok → late k = true → (listed.setIfInBounds j true).getD k true = false → ∃ e ∈ ok.after, Region.binds md e = true ∧ e.on = i :=
        hc.imp id fun ⟨h, hl⟩ => ⟨h, fun k ok hk hlk hun => hl k ok hk hlk (unlisted_of_set hjun hun)⟩
      refine wpOp_mono (fun a' w' g3 => ⟨g3.2.1, g3.2.2.1, ih (listed.setIfInBounds j true) a' w' hc' hfree' (ready_mono hr (Ne.symm hji)) g3.1 g3.2.1 (hnext w' g3.2.1 g3.2.2.1) ?_⟩) g2
      rw [Array.setIfInBounds_comm _ _ hji]
      exact g3.2.2.2
/-- Take number i first: a load. -/
theorem wpAnyU_take {i : Nat} {oi : Oper} {v : Value} {fuel : Nat} {listed : Array Bool} {a : Act} {w : World} (hi : ops[i]? = some oi)
    (hs : Region.noSelect ops = true) (hf : Region.free md ops listed i = true) (hr : (Region.ready md ops listed).contains i = true) (hlw : lateWait md ops late listed i = true)
    (hQ : ∀ c a w, Q (.panic c) (a.put oi.dst v) w → Q (.panic c) a w) (hy : YieldsIf P ops S oi v a) (hU : U w) (hS : S w)
    (h : wpAnyU P md ops Q S U late fuel (listed.setIfInBounds i true) (a.put oi.dst v) w) : wpAnyU P md ops Q S U late (fuel + 1) listed a w :=
  wpAnyU_first (T := S) hi (Region.noSelect_spec hs) hQ fuel listed a w (.inr ⟨fun _ => Iff.rfl, fun _ _ hj hl hu => lateWait_spec hlw hj hl hu⟩) (Region.free_spec hi hf) (by simpa using hr) hy hU hS h
/-- Take number i first: it is late, and U is enough for it. -/
theorem wpAnyU_free {i : Nat} {oi : Oper} {v : Value} {fuel : Nat} {listed : Array Bool} {a : Act} {w : World} (hi : ops[i]? = some oi)
    (hs : Region.noSelect ops = true) (hf : Region.free md ops listed i = true) (hr : (Region.ready md ops listed).contains i = true) (hl : late i = true)
    (hQ : ∀ c a w, Q (.panic c) (a.put oi.dst v) w → Q (.panic c) a w) (hy : YieldsIf P ops U oi v a) (hU : U w)
    (h : wpAnyU P md ops Q S U late fuel (listed.setIfInBounds i true) (a.put oi.dst v) w) : wpAnyU P md ops Q S U late (fuel + 1) listed a w :=
  wpAnyU_first (T := U) hi (Region.noSelect_spec hs) hQ fuel listed a w (.inl ⟨hl, fun _ h => h⟩) (Region.free_spec hi hf) (by simpa using hr) hy hU hU h
/-- Once S is not asked any more the plain walk goes on. -/
theorem wpAnyU_done {listed : Array Bool} {a : Act} {w : World} (hr : Region.ready md ops listed = []) (h : Q .normal a w) :
    ∀ fuel, wpAnyU P md ops Q S U late fuel listed a w
  | 0 => ⟨hr, h⟩
  | _ + 1 => ⟨fun _ => h, by rw [hr]; simp⟩
def AllReadyU (P : Program) (md : Region.Mode) (ops : Array Oper) (Q : Exit → Act → World → Prop) (S U : World → Prop) (late : Nat → Bool) (fuel : Nat) (listed : Array Bool) (a : Act) (w : World) (rs : List Nat) : Prop :=
  ∀ i ∈ rs, wpOp P ops Q i (fun a' w' => U w' ∧ (late i = false → S w') ∧ wpAnyU P md ops Q S U late fuel (listed.setIfInBounds i true) a' w') a w
theorem AllReadyU.nil {fuel : Nat} {listed : Array Bool} {a : Act} {w : World} : AllReadyU P md ops Q S U late fuel listed a w [] := fun _ h => by cases h
theorem AllReadyU.cons {fuel : Nat} {listed : Array Bool} {a : Act} {w : World} {i : Nat} {o : Oper} {rs : List Nat} (ho : ops[i]? = some o)
    (h : ∀ K' : Act → World → Prop, Shut (∀ a w, U w → (late i = false → S w) → wpAnyU P md ops Q S U late fuel (listed.setIfInBounds i true) a w → K' a w) → if Region.wanted o (yielded ops a.tmps) = true then Oper.wp P o a w K' Q else K' (a.put o.dst undef) w)
    (hs : AllReadyU P md ops Q S U late fuel listed a w rs) : AllReadyU P md ops Q S U late fuel listed a w (i :: rs) := fun j hj => by
  rcases List.mem_cons.1 hj with rfl | hj
  · exact wpOp_step ho (fun K' hK => h K' (fun a w hU hS hW => hK a w ⟨hU, hS, hW⟩))
  · exact hs j hj
theorem wpAnyU_ready {rs : List Nat} {fuel : Nat} {listed : Array Bool} {a : Act} {w : World} (hr : Region.ready md ops listed = rs) (hne : rs ≠ [])
    (h : AllReadyU P md ops Q S U late fuel listed a w rs) : wpAnyU P md ops Q S U late (fuel + 1) listed a w :=
  ⟨fun h0 => absurd (hr ▸ h0) hne, hr ▸ h⟩
theorem wp_region_u {id : Nat} {a : Act} {w : World} (S U : World → Prop) (late : Nat → Bool) (hm : P.follows .mixedOrders = true)
    (h : wpAnyU P .any ops Q S U late ops.size (Array.replicate ops.size false) a w.drew) : (Code.region id ops true).wp P Q a w :=
  wp_region_any hm (wpAny_of_u _ _ _ _ h)
end
end Go.Proofs.YtcemefojpaicoaaDoor
