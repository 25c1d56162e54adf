/- A region that draws its order: loads are taken first although the last stores write what they read, since those stores wait for them. · A region that draws its order: facts each of which holds behind some of its operations; a load is taken first if each operation behind which its fact need not hold waits for it. -/
import Derived.Deep.RegionHeld3
import Derived.StillTail
namespace Go.Proofs.Ytcbdcdpoackplaa
section
open Go

section
variable {P : Program} {ops : Array Oper} {Q : Exit → Act → World → Prop} {md : Region.Mode} {S : World → Prop} {late : Nat → Bool}
/-- Whatever order is picked from here on; S holds behind each operation that is carried out, but the late ones. -/
def wpAnyT (P : Program) (md : Region.Mode) (ops : Array Oper) (Q : Exit → Act → World → Prop) (S : World → Prop) (late : Nat → Bool) : Nat → Array Bool → Act → World → Prop
  | 0, listed, a, w => Region.ready md ops listed = [] ∧ Q .normal a w
  | fuel + 1, listed, a, w =>
    (Region.ready md ops listed = [] → Q .normal a w) ∧
    ∀ i ∈ Region.ready md ops listed, wpOp P ops Q i (fun a' w' => (late i = false → S w') ∧ wpAnyT P md ops Q S late fuel (listed.setIfInBounds i true) a' w') a w
theorem wpAny_of_t : ∀ (fuel : Nat) (listed : Array Bool) (a : Act) (w : World), wpAnyT P md ops Q S late fuel listed a w → wpAny P md ops Q fuel listed a w
  | 0, _, _, _, h => h
  | fuel + 1, _, _, _, h => ⟨h.1, fun i hi => wpOp_mono (fun a' w' h' => wpAny_of_t fuel _ a' w' h'.2) (h.2 i hi)⟩
/-- Do all late operations that have not come up wait for number i? -/
def lateWait (md : Region.Mode) (ops : Array Oper) (late : Nat → Bool) (listed : Array Bool) (i : Nat) : Bool := (List.range ops.size).all fun j => !late j || listed.getD j true || Region.waitsFor md ops j i
theorem lateWait_spec {i j : Nat} {oj : Oper} {listed : Array Bool} (h : lateWait md ops late listed i = true) (hj : ops[j]? = some oj) (hl : late j = true) (hu : listed.getD j true = false) : ∃ e ∈ oj.after, Region.binds md e = true ∧ e.on = i := by
  unfold lateWait at h
  have h1 := List.all_eq_true.1 h j (List.mem_range.2 (by
    rcases Nat.lt_or_ge j ops.size with h' | h'
    · exact h'
    · rw [Array.getElem?_eq_none h'] at hj; cases hj))
  rw [hl, hu] at h1
  obtain ⟨oj', h2, h3⟩ := Region.waitsFor_spec (by simpa using h1)
  rw [hj] at h2
  injection h2 with h2
  subst h2
  exact h3
theorem unlisted_of_set {listed : Array Bool} {j k : Nat} (hjun : listed.getD j true = false) (hun : (listed.setIfInBounds j true).getD k true = false) : listed.getD k true = false := by
  by_cases hjk : j = k
  · subst hjk; exact hjun
  · rw [getD_set_ne true hjk] at hun; exact hun
/-- The law of both takes: either number i is late and yields in every world, or S holds till it has come up. -/
theorem wpAnyT_first {i : Nat} {oi : Oper} {v : Value} {T : World → Prop} (hi : ops[i]? = some oi) (hsel : ∀ (j : Nat) (o : Oper) cs b, ops[j]? = some o → o.op ≠ .select cs b)
    (hQ : ∀ c a w, Q (.panic c) (a.put oi.dst v) w → Q (.panic c) a w) :
    ∀ (fuel : Nat) (listed : Array Bool) (a : Act) (w : World),
      (late i = true ∧ (∀ w, T w) ∨ (∀ w, S w ↔ T w) ∧ ∀ j oj, ops[j]? = some oj → late j = true → listed.getD j true = false → ∃ e ∈ oj.after, Region.binds md e = true ∧ e.on = i) →
      (∀ j oj, ops[j]? = some oj → j ≠ i → listed.getD j true = false → (∀ e ∈ oj.after, Region.binds md e = true → e.on ≠ i) → oi.apart ops oj = true) →
      i ∈ Region.ready md ops listed → YieldsIf P ops T oi v a → T w →
      wpAnyT P md ops Q S late fuel (listed.setIfInBounds i true) (a.put oi.dst v) w → wpAnyT P md ops Q S late (fuel + 1) listed a w := by
  have back : ∀ {listed : Array Bool} {w : World}, (late i = true ∧ (∀ w, T w) ∨ (∀ w, S w ↔ T w) ∧ ∀ j oj, ops[j]? = some oj → late j = true → listed.getD j true = false → ∃ e ∈ oj.after, Region.binds md e = true ∧ e.on = i) → T w → late i = false → S w := by
    intro listed w hc hT hl
    rcases hc with ⟨h, _⟩ | ⟨h, _⟩
    · rw [h] at hl; cases hl
    · exact (h w).2 hT
  intro fuel
  induction fuel with
  | zero =>
    intro listed a w hc _ hr hy hS H
    refine ⟨fun h => (by rw [h] at hr; cases hr), fun j hj => ?_⟩
    by_cases hji : j = i
    · subst hji; exact hy.wpOp hi hS ⟨back hc hS, H⟩
    · have := ready_mono hj hji
      rw [H.1] at this
      cases this
  | succ fuel ih =>
    intro listed a w hc hfree hr hy hS H
    refine ⟨fun h => (by rw [h] at hr; cases hr), fun j hj => ?_⟩
    by_cases hji : j = i
    · subst hji; exact hy.wpOp hi hS ⟨back hc hS, H⟩
    · have g1 := H.2 j (ready_mono hj hji)
      obtain ⟨hjun, oj, hoj, hall⟩ := mem_ready.1 hj
      have hnot : ∀ e ∈ oj.after, Region.binds md e = true → e.on ≠ i := fun e he hb heq => by
        have k1 := hall e he hb
        have k0 := (mem_ready.1 hr).1
        rw [heq] at k1
        rcases Nat.lt_or_ge i listed.size with h' | h'
        · simp [h'] at k0 k1; rw [k0] at k1; cases k1
        · simp [Array.getElem?_eq_none h'] at k1
      have hnext : ∀ w', (late j = false → S w') → T w' := fun w' hs => by
        rcases hc with ⟨_, h⟩ | ⟨h, hl⟩
        · exact h w'
        · refine (h w').1 (hs ?_)
          cases hlj : late j with
          | false => rfl
          | true =>
            obtain ⟨e, he, hb, heq⟩ := hl j oj hoj hlj hjun
            exact absurd heq (hnot e he hb)
      have g2 := wpOp_putIf hoj (hfree j oj hoj hji hjun hnot) (fun cs b => hsel i oi cs b hi) (fun cs b => hsel j oj cs b hoj) hQ hy g1
      have hfree' : ∀ k ok, ops[k]? = some ok → k ≠ i → (listed.setIfInBounds j true).getD k true = false →
          (∀ e ∈ ok.after, Region.binds md e = true → e.on ≠ i) → oi.apart ops ok = true := fun k ok hk hki hun hno => hfree k ok hk hki (unlisted_of_set hjun hun) hno
      have hc' : late i = true ∧ (∀ w, T w) ∨ (∀ w, S w ↔ T w) ∧ ∀ k ok, ops[k]? = some ok → late k = true → (listed.setIfInBounds j true).getD k true = false → ∃ e ∈ ok.after, Region.binds md e = true ∧ e.on = i :=
        hc.imp id fun ⟨h, hl⟩ => ⟨h, fun k ok hk hlk hun => hl k ok hk hlk (unlisted_of_set hjun hun)⟩
      refine wpOp_mono (fun a' w' g3 => ⟨g3.2.1, ih (listed.setIfInBounds j true) a' w' hc' hfree' (ready_mono hr (Ne.symm hji)) g3.1 (hnext w' g3.2.1) ?_⟩) g2
      rw [Array.setIfInBounds_comm _ _ hji]
      exact g3.2.2
/-- Take number i first: a load. -/
theorem wpAnyT_take {i : Nat} {oi : Oper} {v : Value} {fuel : Nat} {listed : Array Bool} {a : Act} {w : World} (hi : ops[i]? = some oi)
    (hs : Region.noSelect ops = true) (hf : Region.free md ops listed i = true) (hr : (Region.ready md ops listed).contains i = true) (hlw : lateWait md ops late listed i = true)
    (hQ : ∀ c a w, Q (.panic c) (a.put oi.dst v) w → Q (.panic c) a w) (hy : YieldsIf P ops S oi v a) (hS : S w)
    (h : wpAnyT P md ops Q S late fuel (listed.setIfInBounds i true) (a.put oi.dst v) w) : wpAnyT P md ops Q S late (fuel + 1) listed a w :=
  wpAnyT_first (T := S) hi (Region.noSelect_spec hs) hQ fuel listed a w (.inr ⟨fun _ => Iff.rfl, fun _ _ hj hl hu => lateWait_spec hlw hj hl hu⟩) (Region.free_spec hi hf) (by simpa using hr) hy hS h
/-- Take number i first: it is late, and yields in whatever world. -/
theorem wpAnyT_free {i : Nat} {oi : Oper} {v : Value} {fuel : Nat} {listed : Array Bool} {a : Act} {w : World} (hi : ops[i]? = some oi)
    (hs : Region.noSelect ops = true) (hf : Region.free md ops listed i = true) (hr : (Region.ready md ops listed).contains i = true) (hl : late i = true)
    (hQ : ∀ c a w, Q (.panic c) (a.put oi.dst v) w → Q (.panic c) a w) (hy : YieldsIf P ops (fun _ => True) oi v a)
    (h : wpAnyT P md ops Q S late fuel (listed.setIfInBounds i true) (a.put oi.dst v) w) : wpAnyT P md ops Q S late (fuel + 1) listed a w :=
  wpAnyT_first (T := fun _ => True) hi (Region.noSelect_spec hs) hQ fuel listed a w (.inl ⟨hl, fun _ => trivial⟩) (Region.free_spec hi hf) (by simpa using hr) hy trivial h
/-- Once S is not asked any more the plain walk goes on. -/
theorem wpAnyT_done {listed : Array Bool} {a : Act} {w : World} (hr : Region.ready md ops listed = []) (h : Q .normal a w) :
    ∀ fuel, wpAnyT P md ops Q S late fuel listed a w
  | 0 => ⟨hr, h⟩
  | _ + 1 => ⟨fun _ => h, by rw [hr]; simp⟩
def AllReadyT (P : Program) (md : Region.Mode) (ops : Array Oper) (Q : Exit → Act → World → Prop) (S : World → Prop) (late : Nat → Bool) (fuel : Nat) (listed : Array Bool) (a : Act) (w : World) (rs : List Nat) : Prop :=
  ∀ i ∈ rs, wpOp P ops Q i (fun a' w' => (late i = false → S w') ∧ wpAnyT P md ops Q S late fuel (listed.setIfInBounds i true) a' w') a w
theorem AllReadyT.nil {fuel : Nat} {listed : Array Bool} {a : Act} {w : World} : AllReadyT P md ops Q S late fuel listed a w [] := fun _ h => by cases h
theorem AllReadyT.cons {fuel : Nat} {listed : Array Bool} {a : Act} {w : World} {i : Nat} {o : Oper} {rs : List Nat} (ho : ops[i]? = some o)
    (h : ∀ K' : Act → World → Prop, Shut (∀ a w, (late i = false → S w) → wpAnyT P md ops Q S late fuel (listed.setIfInBounds i true) a w → K' a w) → if Region.wanted o (yielded ops a.tmps) = true then Oper.wp P o a w K' Q else K' (a.put o.dst undef) w)
    (hs : AllReadyT P md ops Q S late fuel listed a w rs) : AllReadyT P md ops Q S late fuel listed a w (i :: rs) := fun j hj => by
  rcases List.mem_cons.1 hj with rfl | hj
  · exact wpOp_step ho (fun K' hK => h K' (fun a w hS hW => hK a w ⟨hS, hW⟩))
  · exact hs j hj
theorem wpAnyT_ready {rs : List Nat} {fuel : Nat} {listed : Array Bool} {a : Act} {w : World} (hr : Region.ready md ops listed = rs) (hne : rs ≠ [])
    (h : AllReadyT P md ops Q S late fuel listed a w rs) : wpAnyT P md ops Q S late (fuel + 1) listed a w :=
  ⟨fun h0 => absurd (hr ▸ h0) hne, hr ▸ h⟩
theorem wp_region_t {id : Nat} {a : Act} {w : World} (S : World → Prop) (late : Nat → Bool) (hm : P.follows .mixedOrders = true)
    (h : wpAnyT P .any ops Q S late ops.size (Array.replicate ops.size false) a w.drew) : (Code.region id ops true).wp P Q a w :=
  wp_region_any hm (wpAny_of_t _ _ _ _ h)
end
end
section
open Go

/-- Some facts, each with the operations behind which it holds. -/
abbrev Facts := List ((Nat → Bool) × (World → Prop))
def Facts.behind (F : Facts) (i : Nat) (w : World) : Prop := ∀ p ∈ F, p.1 i = true → p.2 w
section
variable {P : Program} {ops : Array Oper} {Q : Exit → Act → World → Prop} {md : Region.Mode} {F : Facts}
/-- Whatever order is picked from here on; the facts hold behind their operations. -/
def wpAnyV (P : Program) (md : Region.Mode) (ops : Array Oper) (Q : Exit → Act → World → Prop) (F : Facts) : Nat → Array Bool → Act → World → Prop
  | 0, listed, a, w => Region.ready md ops listed = [] ∧ Q .normal a w
  | fuel + 1, listed, a, w =>
    (Region.ready md ops listed = [] → Q .normal a w) ∧
    ∀ i ∈ Region.ready md ops listed, wpOp P ops Q i (fun a' w' => F.behind i w' ∧ wpAnyV P md ops Q F fuel (listed.setIfInBounds i true) a' w') a w
theorem wpAny_of_v : ∀ (fuel : Nat) (listed : Array Bool) (a : Act) (w : World), wpAnyV P md ops Q F fuel listed a w → wpAny P md ops Q fuel listed a w
  | 0, _, _, _, h => h
  | fuel + 1, _, _, _, h => ⟨h.1, fun i hi => wpOp_mono (fun a' w' h' => wpAny_of_v fuel _ a' w' h'.2) (h.2 i hi)⟩
/-- Is number m of the facts told behind each operation that has not come up, but number i and those that wait for it; and whatever is told behind number i, too? -/
def toldBy (md : Region.Mode) (ops : Array Oper) (F : List (Nat → Bool)) (ok : Nat → Bool) (listed : Array Bool) (i : Nat) : Bool :=
  (List.range ops.size).all fun j => (ok j && F.all fun p => !p i || p j) || listed.getD j true || j == i || Region.waitsFor md ops j i
theorem toldBy_spec {i j : Nat} {oj : Oper} {G : List (Nat → Bool)} {ok : Nat → Bool} {listed : Array Bool} (h : toldBy md ops G ok listed i = true) (hj : ops[j]? = some oj) (hji : j ≠ i) (hu : listed.getD j true = false) (hn : ∀ e ∈ oj.after, Region.binds md e = true → e.on ≠ i) :
    ok j = true ∧ ∀ p ∈ G, p i = true → p j = true := by
  have h1 := List.all_eq_true.1 h j (List.mem_range.2 (by
    rcases Nat.lt_or_ge j ops.size with h' | h'
    · exact h'
    · rw [Array.getElem?_eq_none h'] at hj; cases hj))
  rw [hu] at h1
  cases hk : (ok j && G.all fun p => !p i || p j) with
  | true =>
    rw [Bool.and_eq_true] at hk
    refine ⟨hk.1, fun p hp hpi => ?_⟩
    have := List.all_eq_true.1 hk.2 p hp
    rw [hpi] at this
    simpa using this
  | false =>
    have hji' : (j == i) = false := by simpa using hji
    rw [hk, hji'] at h1
    obtain ⟨oj', h2, e, he, hb, heq⟩ := Region.waitsFor_spec (by simpa using h1)
    rw [hj] at h2
    injection h2 with h2
    subst h2
    exact absurd heq (hn e he hb)
theorem wpAnyV_first {i : Nat} {oi : Oper} {v : Value} {T : World → Prop} (hi : ops[i]? = some oi) (hsel : ∀ (j : Nat) (o : Oper) cs b, ops[j]? = some o → o.op ≠ .select cs b)
    (hQ : ∀ c a w, Q (.panic c) (a.put oi.dst v) w → Q (.panic c) a w) :
    ∀ (fuel : Nat) (listed : Array Bool) (a : Act) (w : World),
      (∀ j oj, ops[j]? = some oj → j ≠ i → listed.getD j true = false → (∀ e ∈ oj.after, Region.binds md e = true → e.on ≠ i) → ∀ w, F.behind j w → T w ∧ F.behind i w) →
      (∀ j oj, ops[j]? = some oj → j ≠ i → listed.getD j true = false → (∀ e ∈ oj.after, Region.binds md e = true → e.on ≠ i) → oi.apart ops oj = true) →
      i ∈ Region.ready md ops listed → YieldsIf P ops T oi v a → T w → F.behind i w →
      wpAnyV P md ops Q F fuel (listed.setIfInBounds i true) (a.put oi.dst v) w → wpAnyV P md ops Q F (fuel + 1) listed a w := by
  intro fuel
  induction fuel with
  | zero =>
    intro listed a w hc _ hr hy hT hF H
    refine ⟨fun h => (by rw [h] at hr; cases hr), fun j hj => ?_⟩
    by_cases hji : j = i
    · subst hji; exact hy.wpOp hi hT ⟨hF, H⟩
    · have := ready_mono hj hji
      rw [H.1] at this
      cases this
  | succ fuel ih =>
    intro listed a w hc hfree hr hy hT hF H
    refine ⟨fun h => (by rw [h] at hr; cases hr), fun j hj => ?_⟩
    by_cases hji : j = i
    · subst hji; exact hy.wpOp hi hT ⟨hF, H⟩
    · have g1 := H.2 j (ready_mono hj hji)
      obtain ⟨hjun, oj, hoj, hall⟩ := mem_ready.1 hj
      have hnot : ∀ e ∈ oj.after, Region.binds md e = true → e.on ≠ i := fun e he hb heq => by
        have k1 := hall e he hb
        have k0 := (mem_ready.1 hr).1
        rw [heq] at k1
        rcases Nat.lt_or_ge i listed.size with h' | h'
        · simp [h'] at k0 k1; rw [k0] at k1; cases k1
        · simp [Array.getElem?_eq_none h'] at k1
      have g2 := wpOp_putIf hoj (hfree j oj hoj hji hjun hnot) (fun cs b => hsel i oi cs b hi) (fun cs b => hsel j oj cs b hoj) hQ hy g1
      have hfree' : ∀ k ok, ops[k]? = some ok → k ≠ i → (listed.setIfInBounds j true).getD k true = false →
          (∀ e ∈ ok.after, Region.binds md e = true → e.on ≠ i) → oi.apart ops ok = true := fun k ok hk hki hun hno => hfree k ok hk hki (unlisted_of_set hjun hun) hno
      have hc' : ∀ k ok, ops[k]? = some ok → k ≠ i → (listed.setIfInBounds j true).getD k true = false → (∀ e ∈ ok.after, Region.binds md e = true → e.on ≠ i) → ∀ w, F.behind k w → T w ∧ F.behind i w :=
        fun k ok hk hki hun hno => hc k ok hk hki (unlisted_of_set hjun hun) hno
      refine wpOp_mono (fun a' w' g3 => ⟨g3.2.1, ih (listed.setIfInBounds j true) a' w' hc' hfree' (ready_mono hr (Ne.symm hji)) g3.1 (hc j oj hoj hji hjun hnot w' g3.2.1).1 (hc j oj hoj hji hjun hnot w' g3.2.1).2 ?_⟩) g2
      rw [Array.setIfInBounds_comm _ _ hji]
      exact g3.2.2
/-- Take number i first: what it yields follows from fact number m. -/
theorem wpAnyV_take {i m : Nat} {oi : Oper} {v : Value} {ok : Nat → Bool} {T : World → Prop} {fuel : Nat} {listed : Array Bool} {a : Act} {w : World} (hi : ops[i]? = some oi)
    (hm : F[m]? = some (ok, T)) (hs : Region.noSelect ops = true) (hf : Region.free md ops listed i = true) (hr : (Region.ready md ops listed).contains i = true) (hlw : toldBy md ops (F.map Prod.fst) ok listed i = true)
    (hQ : ∀ c a w, Q (.panic c) (a.put oi.dst v) w → Q (.panic c) a w) (hy : YieldsIf P ops T oi v a) (hT : T w) (hS : F.behind i w)
    (h : wpAnyV P md ops Q F fuel (listed.setIfInBounds i true) (a.put oi.dst v) w) : wpAnyV P md ops Q F (fuel + 1) listed a w :=
  wpAnyV_first hi (Region.noSelect_spec hs) hQ fuel listed a w (fun j oj hj hji hu hn w' hb => by
    obtain ⟨h1, h2⟩ := toldBy_spec hlw hj hji hu hn
    exact ⟨hb (ok, T) (List.mem_of_getElem? hm) h1, fun p hp hpi => hb p hp (h2 p.1 (List.mem_map.2 ⟨p, hp, rfl⟩) hpi)⟩)
    (Region.free_spec hi hf) (by simpa using hr) hy hT hS h
/-- Take number i first: it asks nothing of the world. -/
theorem wpAnyV_free {i : Nat} {oi : Oper} {v : Value} {fuel : Nat} {listed : Array Bool} {a : Act} {w : World} (hi : ops[i]? = some oi)
    (hs : Region.noSelect ops = true) (hf : Region.free md ops listed i = true) (hr : (Region.ready md ops listed).contains i = true) (hlw : toldBy md ops (F.map Prod.fst) (fun _ => true) listed i = true)
    (hQ : ∀ c a w, Q (.panic c) (a.put oi.dst v) w → Q (.panic c) a w) (hy : YieldsIf P ops (fun _ => True) oi v a) (hS : F.behind i w)
    (h : wpAnyV P md ops Q F fuel (listed.setIfInBounds i true) (a.put oi.dst v) w) : wpAnyV P md ops Q F (fuel + 1) listed a w :=
  wpAnyV_first hi (Region.noSelect_spec hs) hQ fuel listed a w (fun j oj hj hji hu hn w' hb => by
    obtain ⟨-, h2⟩ := toldBy_spec hlw hj hji hu hn
    exact ⟨trivial, fun p hp hpi => hb p hp (h2 p.1 (List.mem_map.2 ⟨p, hp, rfl⟩) hpi)⟩)
    (Region.free_spec hi hf) (by simpa using hr) hy trivial hS h
/-- Once all have come up. -/
theorem wpAnyV_done {listed : Array Bool} {a : Act} {w : World} (hr : Region.ready md ops listed = []) (h : Q .normal a w) :
    ∀ fuel, wpAnyV P md ops Q F fuel listed a w
  | 0 => ⟨hr, h⟩
  | _ + 1 => ⟨fun _ => h, by rw [hr]; simp⟩
def AllReadyV (P : Program) (md : Region.Mode) (ops : Array Oper) (Q : Exit → Act → World → Prop) (F : Facts) (fuel : Nat) (listed : Array Bool) (a : Act) (w : World) (rs : List Nat) : Prop :=
  ∀ i ∈ rs, wpOp P ops Q i (fun a' w' => F.behind i w' ∧ wpAnyV P md ops Q F fuel (listed.setIfInBounds i true) a' w') a w
theorem AllReadyV.nil {fuel : Nat} {listed : Array Bool} {a : Act} {w : World} : AllReadyV P md ops Q F fuel listed a w [] := fun _ h => by cases h
theorem AllReadyV.cons {fuel : Nat} {listed : Array Bool} {a : Act} {w : World} {i : Nat} {o : Oper} {rs : List Nat} (ho : ops[i]? = some o)
    (h : ∀ K' : Act → World → Prop, Shut (∀ a w, F.behind i w → wpAnyV P md ops Q F fuel (listed.setIfInBounds i true) a w → K' a w) → if Region.wanted o (yielded ops a.tmps) = true then Oper.wp P o a w K' Q else K' (a.put o.dst undef) w)
    (hs : AllReadyV P md ops Q F fuel listed a w rs) : AllReadyV P md ops Q F fuel listed a w (i :: rs) := fun j hj => by
  rcases List.mem_cons.1 hj with rfl | hj
  · exact wpOp_step ho (fun K' hK => h K' (fun a w hS hW => hK a w ⟨hS, hW⟩))
  · exact hs j hj
theorem wpAnyV_ready {rs : List Nat} {fuel : Nat} {listed : Array Bool} {a : Act} {w : World} (hr : Region.ready md ops listed = rs) (hne : rs ≠ [])
    (h : AllReadyV P md ops Q F fuel listed a w rs) : wpAnyV P md ops Q F (fuel + 1) listed a w :=
  ⟨fun h0 => absurd (hr ▸ h0) hne, hr ▸ h⟩
theorem wp_region_v {id : Nat} {a : Act} {w : World} (F : Facts) (hm : P.follows .mixedOrders = true)
    (h : wpAnyV P .any ops Q F ops.size (Array.replicate ops.size false) a w.drew) : (Code.region id ops true).wp P Q a w :=
  wp_region_any hm (wpAny_of_v _ _ _ _ h)
theorem wpAnyV_world {fuel : Nat} {listed : Array Bool} {a : Act} {w : World} (G : World → Prop) (hG : G w) (h : ∀ w', G w' → wpAnyV P md ops Q F fuel listed a w') : wpAnyV P md ops Q F fuel listed a w := h w hG
theorem behind_two {o1 o2 : Nat → Bool} {T1 T2 : World → Prop} {i : Nat} {w : World} (h1 : o1 i = true → T1 w) (h2 : o2 i = true → T2 w) : Facts.behind [(o1, T1), (o2, T2)] i w := by
  intro p hp hi
  rcases List.mem_cons.1 hp with rfl | hp
  · exact h1 hi
  · rw [List.mem_singleton] at hp
    subst hp
    exact h2 hi
theorem behind_one {o1 : Nat → Bool} {T1 : World → Prop} {i : Nat} {w : World} (h1 : o1 i = true → T1 w) : Facts.behind [(o1, T1)] i w := by
  intro p hp hi
  rw [List.mem_singleton] at hp
  subst hp
  exact h1 hi
theorem behind_cons {o1 : Nat → Bool} {T1 : World → Prop} {F : Facts} {i : Nat} {w : World} (h1 : o1 i = true → T1 w) (h : F.behind i w) : Facts.behind ((o1, T1) :: F) i w := by
  intro p hp hi
  rcases List.mem_cons.1 hp with rfl | hp
  · exact h1 hi
  · exact h p hp hi
end
end
end Go.Proofs.Ytcbdcdpoackplaa
