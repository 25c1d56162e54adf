/- A range over a function whose rounds and whose iterator keep to blocks of their own: G says which blocks are the loop's. -/
import Derived.RangeFuncNested
import Derived.Below
namespace Go.Proofs.Ytcbdcdpoackplaa
open Go.RowKit

/-- What a round may do: it touches blocks of G, and new ones. -/
structure Rnd (n₀ : Nat) (G : World → Nat → Prop) (W W' : World) : Prop where
  below : Below n₀ W W'
  rest : ∀ b, b < W.heap.size → ¬ G W b → W'.heap[b]? = W.heap[b]?
  grow : ∀ b, G W' b → G W b ∨ W.heap.size ≤ b
theorem Rnd.refl (n₀ : Nat) (G : World → Nat → Prop) (W : World) : Rnd n₀ G W W := ⟨Below.refl _ _, fun _ _ _ => rfl, fun _ h => .inl h⟩
theorem Rnd.trans {n₀ : Nat} {G : World → Nat → Prop} {A B C : World} (h : Rnd n₀ G A B) (k : Rnd n₀ G B C) : Rnd n₀ G A C := by
  have hs := h.below.size
  refine ⟨h.below.trans k.below, fun b hb hg => ?_, fun b hg => ?_⟩
  · refine (k.rest b (by omega) fun hg' => ?_).trans (h.rest b hb hg)
    rcases h.grow b hg' with h1 | h1
    · exact hg h1
    · omega
  · rcases k.grow b hg with h1 | h1
    · exact h.grow b h1
    · exact .inr (by omega)
/-- What an iterator that was called when c blocks lay may do by itself: it touches new blocks alone, none of G. -/
structure Itr (c : Nat) (G : World → Nat → Prop) (W W' : World) : Prop where
  below : Below c W W'
  kept : ∀ b, G W b → W'.heap[b]? = W.heap[b]?
/-- A state of the loop that abides the steps of its iterator. -/
structure Keeps {α : Type} (c : Nat) (G : World → Nat → Prop) (J : List α → World → Prop) : Prop where
  step : ∀ pre W W', J pre W → Itr c G W W' → J pre W' ∧ ∀ b, G W' b → G W b
  lies : ∀ pre W b, J pre W → G W b → b < W.heap.size
theorem Keeps.mono {α : Type} {c c' : Nat} {G : World → Nat → Prop} {J : List α → World → Prop} (h : Keeps c G J) (hc : c ≤ c') : Keeps c' G J :=
  ⟨fun pre W W' hj hi => h.step pre W W' hj ⟨hi.below.mono hc, hi.kept⟩, h.lies⟩
/-- A step of the iterator's own is one of which a loop may say that it touched nothing. -/
theorem Keeps.rnd {α : Type} {c n₀ : Nat} {G : World → Nat → Prop} {J : List α → World → Prop} (h : Keeps c G J) {pre : List α} {W W' : World} (hj : J pre W) (hc : c ≤ W.heap.size) (hn : n₀ ≤ W.heap.size) (hb : Below W.heap.size W W') : J pre W' ∧ Rnd n₀ G W W' := by
  obtain ⟨h1, h2⟩ := h.step pre W W' hj ⟨hb.mono hc, fun b hg => hb.block b (h.lies pre W b hj hg)⟩
  exact ⟨h1, hb.mono hn, fun b hlt _ => hb.block b hlt, fun b hg => .inl (h2 b hg)⟩
/-- The contract of an iterator that hands out xs. -/
def Gives {α : Type} (F : Fence) (n : Nat) (P : Program) (g : Nat) (lb : Array Value) (encs : α → Array Value) (xs : List α) (n₀ : Nat) (At : (World → Nat → Prop) → World → Prop) : Prop :=
  ∀ (l : Nat) (G : World → Nat → Prop) (J Jx : List α → World → Prop) (W : World), Keeps W.heap.size G J → Keeps W.heap.size G Jx → At G W →
    (∀ pre x W1, J pre W1 → pre ++ [x] <+: xs → YieldAt F (n - 1) P l (encs x) W1 fun e W' =>
      Rnd n₀ G W1 W' ∧ ((e = .returned (.bool true) ∧ J (pre ++ [x]) W') ∨ (e = .returned (.bool false) ∧ Jx (pre ++ [x]) W'))) →
    J [] W →
    CallsIn F n P g (#[.func (.yield l) #[] #[]] ++ lb) W fun e W' => (∃ v, e = .returned v) ∧ Rnd n₀ G W W' ∧ (J xs W' ∨ ∃ pre, pre <+: xs ∧ Jx pre W')
/-- How the body of a round may be left. -/
def leftBy {α : Type} (n₀ : Nat) (G : World → Nat → Prop) (I : List α → World → Prop) (Ix : Code → List α → World → Prop) (xs : List α) (W : World) : Exit → Act → World → Prop
  | .normal, _, W' => Rnd n₀ G W W' ∧ I xs W'
  | .ret, _, W' => Rnd n₀ G W W' ∧ Ix .ret xs W'
  | .exit id, _, W' => Rnd n₀ G W W' ∧ Ix (.exit id) xs W'
  | .goto t, _, W' => Rnd n₀ G W W' ∧ Ix (.goto t) xs W'
  | .panic _, _, _ => False
  | .outgrown, _, _ => False
section
variable {F : Fence} {n : Nat} {P : Program}
theorem range_any {α : Type} {g : Operand} {ps : Array Tmp} {assign body : Code} {Q : Exit → Act → World → Prop} {a : Act} {w : World}
    (hro : F.round = none) (h1 : F.depth.isSome = true → 1 ≤ n) {gf : Nat} {lb : Array Value} (hg : a.eval g = .func (.func gf) #[] lb) (hFg : F.fn gf) (eg : ∀ args w, (callFunc gf args).run P w = .ok (.enter gf args) w)
    {encs : α → Array Value} {xs : List α} {n₀ : Nat} {At : (World → Nat → Prop) → World → Prop} (hseq : Gives F (n - 1) P gf lb encs xs n₀ At) (hps : ∀ x, (encs x).size = ps.size) (hn : n₀ ≤ w.heap.size)
    (G : World → Nat → Prop) (I : List α → World → Prop) (Ix : Code → List α → World → Prop) (hI : Keeps w.heap.size G I) (hIx : ∀ c, Keeps w.heap.size G (Ix c)) (h0 : I [] w)
    (hAt : ∀ W G', Below w.heap.size w W → (∀ b, G' W b → G w b ∨ w.heap.size ≤ b) → At G' W)
    (Ax : α → Act → World → Prop) (hAx : ∀ x a' W l r r', Ax x a' W → W.heap[l]? = some (.loop r) → Ax x a' (W.putObj l (.loop r')))
    (hassign : ∀ (l : Nat) (pre : List α) (x : α) (W : World) (K : Act → World → Prop), w.heap.size < W.heap.size → I pre W → (∀ a' W', Rnd n₀ G W W' → I pre W' → Ax x a' W' → K a' W') →
      assign.wpIn (F.inRound l) (n - 1 - 1) P (Exit.then K (fun _ _ _ => False)) { tmps := (ps.zip (encs x)).foldl (fun t (p, v) => t.setIfInBounds p v) a.tmps, defers := [] } W)
    (hbody : ∀ (l : Nat) (pre : List α) (x : α) (a' : Act) (W : World), w.heap.size < W.heap.size → pre ++ [x] <+: xs → Rnd n₀ G w W → I pre W → Ax x a' W → body.wpIn (F.inRound l) (n - 1 - 1) P (leftBy n₀ G I Ix (pre ++ [x]) W) a' W)
    (hdone : ∀ (D : Nat) (W : World), w.heap.size ≤ D → ¬ G W D → Rnd n₀ G w W → I xs W → W.heap[D]? = some (.deferred (some [])) → Q .normal { a with defers := { target := .collected D, args := #[] } :: a.defers } W)
    (hstop : ∀ (D : Nat) (c : Code) (pre : List α) (W : World), w.heap.size ≤ D → ¬ G W D → pre <+: xs → Rnd n₀ G w W → Ix c pre W → W.heap[D]? = some (.deferred (some [])) → c.wpIn F n P Q { a with defers := { target := .collected D, args := #[] } :: a.defers } W) :
    (Code.rangeFunc g ps assign body).wpIn F n P Q a w := by
  refine wpIn_rangeFunc fun fn hfn => ?_
  rw [hro]
  obtain ⟨rc, hrc⟩ : ∃ rc : LoopState → Option Code → Loop, rc = fun st pe => { state := st, pending := pe, fn, tmps := a.tmps, params := ps, assign, body, defers := w.heap.size } := ⟨_, rfl⟩
  obtain ⟨W1, hW1⟩ : ∃ W1, (w.alloc (.deferred (some []))).alloc (.loop (rc .ready none)) = W1 := ⟨_, rfl⟩
  have z1 : W1.heap.size = w.heap.size + 2 := by rw [← hW1]; simp
  have hL : W1.heap[w.heap.size + 1]? = some (.loop (rc .ready none)) := by
    rw [← hW1]
    have := World.alloc_heap_new (w.alloc (.deferred (some []))) (.loop (rc .ready none))
    rwa [World.size_alloc] at this
  have hD : W1.heap[w.heap.size]? = some (.deferred (some [])) := by
    rw [← hW1]
    exact (Below.heap_alloc _ _ _ (by simp)).trans (World.alloc_heap_new w _)
  have hb1 : Below w.heap.size w W1 := by rw [← hW1]; exact ((Below.refl _ w).alloc (Nat.le_refl _) _).alloc (by simp) _
  obtain ⟨hi1, hr1⟩ := hI.rnd h0 (Nat.le_refl _) hn hb1
  obtain ⟨-, hsub⟩ := hI.step [] w W1 h0 ⟨hb1, fun b hg => hb1.block b (hI.lies [] w b h0 hg)⟩
  have fresh : ∀ k, w.heap.size ≤ k → ¬ G W1 k := fun k hk hg' => by
    have := hI.lies [] w k h0 (hsub k hg')
    omega
  refine ⟨w.heap.size + 1, [{ target := .collected w.heap.size, args := #[] }], W1, { target := .fn (.func gf) lb, args := #[.func (.yield (w.heap.size + 1)) #[] #[]] }, W1, gf,
    #[.func (.yield (w.heap.size + 1)) #[] #[]] ++ lb, W1, ?_, ?_, ?_, ?_, h1, ?_⟩
  · rw [← hW1, hrc]
    exact run_enterLoop_outer _ _ _ _ _
  · simp only [resolve, hg]
    simp [go_sem]
  · intro f' hf'
    simp [Target.leads] at hf'
    subst hf'
    exact hFg
  · simp [invoke, go_sem, eg]
  -- the loop's own state beside the book-keeping
  obtain ⟨G', hG'⟩ : ∃ G' : World → Nat → Prop, G' = fun W b => G W b ∨ b = w.heap.size ∨ b = w.heap.size + 1 := ⟨_, rfl⟩
  have hGi : ∀ {W b}, G' W b ↔ G W b ∨ b = w.heap.size ∨ b = w.heap.size + 1 := by intros; rw [hG']
  obtain ⟨Bk, hBk⟩ : ∃ Bk : LoopState → Option Code → World → Prop, Bk = fun st pe W => W.heap[w.heap.size + 1]? = some (.loop (rc st pe)) ∧ W.heap[w.heap.size]? = some (.deferred (some [])) ∧ ¬ G W w.heap.size ∧ ¬ G W (w.heap.size + 1) ∧ Rnd n₀ G w W := ⟨_, rfl⟩
  have hBi : ∀ {st pe W}, Bk st pe W ↔ W.heap[w.heap.size + 1]? = some (.loop (rc st pe)) ∧ W.heap[w.heap.size]? = some (.deferred (some [])) ∧ ¬ G W w.heap.size ∧ ¬ G W (w.heap.size + 1) ∧ Rnd n₀ G w W := by intros; rw [hBk]
  have step : ∀ {I' : List α → World → Prop} (_ : Keeps w.heap.size G I') {pre W W' st pe st' pe'}, I' pre W → Bk st pe W → Itr w.heap.size G W W' → W'.heap[w.heap.size + 1]? = some (.loop (rc st' pe')) → W'.heap[w.heap.size]? = some (.deferred (some [])) →
      I' pre W' ∧ Bk st' pe' W' ∧ ∀ b, G W' b → G W b := by
    intro I' hI' pre W W' st pe st' pe' hi hb hit hl hd
    obtain ⟨b1, b2, b3, b4, b5⟩ := hBi.1 hb
    obtain ⟨h3, h4⟩ := hI'.step pre W W' hi hit
    refine ⟨h3, hBi.2 ⟨hl, hd, fun hg => b3 (h4 _ hg), fun hg => b4 (h4 _ hg), b5.below.trans (hit.below.mono hn), fun b hb hg => ?_, fun b hg => b5.grow b (h4 b hg)⟩, h4⟩
    exact (hit.below.block b hb).trans (b5.rest b hb hg)
  have put : ∀ {I' : List α → World → Prop} (_ : Keeps w.heap.size G I') {pre W st pe} (st' pe'), I' pre W → Bk st pe W →
      I' pre (W.putObj (w.heap.size + 1) (.loop (rc st' pe'))) ∧ Bk st' pe' (W.putObj (w.heap.size + 1) (.loop (rc st' pe'))) ∧ ∀ b, G (W.putObj (w.heap.size + 1) (.loop (rc st' pe'))) b → G W b := by
    intro I' hI' pre W st pe st' pe' hi hb
    obtain ⟨b1, b2, b3, b4, b5⟩ := hBi.1 hb
    have hlt := (Array.getElem?_eq_some_iff.1 b1).1
    refine step hI' hi hb ⟨(Below.refl _ W).grown (grownBy_putObj' W _ _) b5.below.size (fun k e => by cases e; omega), fun b hgb => World.putObj_heap_other (fun e => b4 (e ▸ hgb))⟩ (World.putObj_heap_same hlt) ((World.putObj_heap_other (by omega)).trans b2)
  have kp : ∀ {I' : List α → World → Prop} (_ : Keeps w.heap.size G I') (st pe), Keeps W1.heap.size G' fun pre W => I' pre W ∧ Bk st pe W := by
    intro I' hI' st pe
    refine ⟨fun pre W W' ⟨hi, hb⟩ hit => ?_, fun pre W b ⟨hi, hb⟩ hg => ?_⟩
    · obtain ⟨b1, b2, b3, b4, b5⟩ := hBi.1 hb
      obtain ⟨h3, h4, h5⟩ := step hI' hi hb ⟨hit.below.mono (by omega), fun b hgb => hit.kept b (hGi.2 (.inl hgb))⟩ ((hit.kept _ (hGi.2 (.inr (.inr rfl)))).trans b1) ((hit.kept _ (hGi.2 (.inr (.inl rfl)))).trans b2)
      refine ⟨⟨h3, h4⟩, fun b hg => ?_⟩
      rcases hGi.1 hg with hg | hg
      · exact hGi.2 (.inl (h5 b hg))
      · exact hGi.2 (.inr hg)
    · obtain ⟨b1, b2, -⟩ := hBi.1 hb
      have := (Array.getElem?_eq_some_iff.1 b1).1
      rcases hGi.1 hg with hg | rfl | rfl
      · exact hI'.lies pre W b hi hg
      · omega
      · omega
  have kx : Keeps W1.heap.size G' fun pre W => ∃ c, Ix c pre W ∧ Bk .done (some c) W :=
    ⟨fun pre W W' ⟨c, hj⟩ hit => by
      obtain ⟨h3, h4⟩ := (kp (hIx c) .done (some c)).step pre W W' hj hit
      exact ⟨⟨c, h3⟩, h4⟩, fun pre W b ⟨c, hj⟩ hg => (kp (hIx c) .done (some c)).lies pre W b hj hg⟩
  refine (hseq (w.heap.size + 1) G' (fun pre W => I pre W ∧ Bk .ready none W) (fun pre W => ∃ c, Ix c pre W ∧ Bk .done (some c) W) W1 (kp hI .ready none) kx
    (hAt W1 G' hb1 fun b hg => ?_) ?_ ⟨hi1, hBi.2 ⟨hL, hD, fresh _ (Nat.le_refl _), fresh _ (by omega), hr1⟩⟩).mono ?_
  · rcases hGi.1 hg with hg | rfl | rfl
    · exact .inl (hsub b hg)
    · exact .inr (Nat.le_refl _)
    · exact .inr (by omega)
  · -- one round
    rintro pre x W ⟨hi, hb⟩ hpre
    obtain ⟨b1, b2, b3, b4, b5⟩ := hBi.1 hb
    have hlt := (Array.getElem?_eq_some_iff.1 b1).1
    have hy := run_yield (P := P) (args := encs x) b1 (by rw [hrc]; exact hps x)
    have hrt : (rc .ready none).tmps = a.tmps := by rw [hrc]
    have hrp : (rc .ready none).params = ps := by rw [hrc]
    have hra : (rc .ready none).assign = assign := by rw [hrc]
    have hrb : (rc .ready none).body = body := by rw [hrc]
    have hrf : (rc .ready none).fn = fn := by rw [hrc]
    have hrs : ∀ st pe, (rc st pe).state = st := by rw [hrc]; intros; rfl
    have hrw : ∀ st pe st' pe', ({ rc st pe with state := st', pending := pe' } : Loop) = rc st' pe' := by rw [hrc]; intros; rfl
    have hrw' : ∀ st pe st', ({ rc st pe with state := st' } : Loop) = rc st' pe := by rw [hrc]; intros; rfl
    rw [hrt, hrp, hra, hrb, hrf] at hy
    refine ⟨fn, _, assign, body, hy, roundIn_of_wpIn hfn (hassign _ pre x W _ (by omega) hi fun a' Wa hra' hia hax => ?_)⟩
    have ba : Bk .ready none Wa := by
      refine hBi.2 ⟨(hra'.rest _ hlt b4).trans b1, (hra'.rest _ (by omega) b3).trans b2, fun hg => ?_, fun hg => ?_, b5.trans hra'⟩
      · rcases hra'.grow _ hg with h | h
        · exact b3 h
        · omega
      · rcases hra'.grow _ hg with h | h
        · exact b4 h
        · omega
    have bA := (hBi.1 ba).1
    have hrun := run_beginRound (P := P) bA (hrs _ _)
    rw [hrw'] at hrun
    refine ⟨_, hrun, ?_⟩
    obtain ⟨hi2, hb2, hg2⟩ := put hI .busy none hia ba
    have hlta := (Array.getElem?_eq_some_iff.1 bA).1
    obtain ⟨W2, hW2⟩ : ∃ W2, W2 = Wa.putObj (w.heap.size + 1) (.loop (rc .busy none)) := ⟨_, rfl⟩
    have hax2 : Ax x a' W2 := by rw [hW2]; exact hAx x a' Wa _ _ _ hax bA
    rw [← hW2] at hi2 hb2 hg2 ⊢
    obtain ⟨c1, c2, c3, c4, c5⟩ := hBi.1 hb2
    have to2 : ∀ {W3}, Rnd n₀ G W2 W3 → Rnd n₀ G' W W3 := by
      intro W3 h3
      have hsz : W2.heap.size = Wa.heap.size := by rw [hW2]; simp
      have hsa := hra'.below.size
      refine ⟨?_, fun b hlt hg => ?_, fun b hg => ?_⟩
      · refine hra'.below.trans (Below.trans ?_ h3.below)
        rw [hW2]
        exact (Below.refl n₀ Wa).grown (grownBy_putObj' Wa _ _) (by have := b5.below.size; omega) (fun k e => by cases e; omega)
      · have g1 : ¬ G W b := fun h => hg (hGi.2 (.inl h))
        have g2 : b ≠ w.heap.size + 1 := fun h => hg (hGi.2 (.inr (.inr h)))
        have g3 : ¬ G Wa b := fun h => by
          rcases hra'.grow b h with h | h
          · exact g1 h
          · omega
        have e2 : W2.heap[b]? = Wa.heap[b]? := by rw [hW2]; exact World.putObj_heap_other g2
        exact (h3.rest b (by omega) (fun h => g3 (hg2 b h))).trans (e2.trans (hra'.rest b hlt g1))
      · rcases hGi.1 hg with hg | hg
        · rcases h3.grow b hg with h | h
          · rcases hra'.grow b (hg2 b h) with h | h
            · exact .inl (hGi.2 (.inl h))
            · exact .inr h
          · exact .inr (by omega)
        · exact .inl (hGi.2 (.inr hg))
    have bk3 : ∀ {W3}, Rnd n₀ G W2 W3 → Bk .busy none W3 := by
      intro W3 h3
      refine hBi.2 ⟨(h3.rest _ (Array.getElem?_eq_some_iff.1 c1).1 c4).trans c1, (h3.rest _ (Array.getElem?_eq_some_iff.1 c2).1 c3).trans c2, fun hg => ?_, fun hg => ?_, c5.trans h3⟩
      · rcases h3.grow _ hg with h | h
        · exact c3 h
        · have := (Array.getElem?_eq_some_iff.1 c2).1; omega
      · rcases h3.grow _ hg with h | h
        · exact c4 h
        · have := (Array.getElem?_eq_some_iff.1 c1).1; omega
    have put3 : ∀ {W3} (st pe), Rnd n₀ G W2 W3 → (∀ b, G (W3.putObj (w.heap.size + 1) (.loop (rc st pe))) b → G W3 b) → Rnd n₀ G' W (W3.putObj (w.heap.size + 1) (.loop (rc st pe))) := by
      intro W3 st pe h3 hsb
      have h4 := to2 h3
      refine ⟨h4.below.grown (grownBy_putObj' W3 _ _) (by have := b5.below.size; have := h4.below.size; omega) (fun k e => by cases e; omega), fun b hlt hg => ?_, fun b hg => ?_⟩
      · exact (World.putObj_heap_other (fun e => hg (hGi.2 (.inr (.inr e))))).trans (h4.rest b hlt hg)
      · rcases hGi.1 hg with hg | hg
        · exact h4.grow b (hGi.2 (.inl (hsb b hg)))
        · exact .inl (hGi.2 (.inr hg))
    refine wpIn_mono (hbody _ pre x a' W2 (by rw [hW2]; simp; have := hra'.below.size; omega) hpre c5 hi2 hax2) ?_
    have ends : ∀ (jump : Option Code) {W3}, Bk .busy none W3 → (Instr.endRound (w.heap.size + 1) jump).run P W3 = .ok (.bool jump.isNone) (W3.putObj (w.heap.size + 1) (.loop (rc (if jump.isNone then .ready else .done) jump))) := by
      intro jump W3 hb3
      have := run_endRound (P := P) jump (hBi.1 hb3).1
      rwa [hrw] at this
    have leave : ∀ (c : Code) {W3}, Rnd n₀ G W2 W3 → Ix c (pre ++ [x]) W3 → ∃ v w', (Instr.endRound (w.heap.size + 1) (some c)).run P W3 = .ok v w' ∧
        (Rnd n₀ G' W w' ∧ ((Ending.returned v = .returned (.bool true) ∧ (I (pre ++ [x]) w' ∧ Bk .ready none w')) ∨ (Ending.returned v = .returned (.bool false) ∧ ∃ c, Ix c (pre ++ [x]) w' ∧ Bk .done (some c) w'))) := by
      intro c W3 hr3 hi3
      obtain ⟨hi4, hb4, hg4⟩ := put (hIx c) .done (some c) hi3 (bk3 hr3)
      exact ⟨_, _, ends (some c) (bk3 hr3), put3 _ _ hr3 hg4, .inr ⟨rfl, c, hi4, hb4⟩⟩
    rintro e a3 W3 hp
    cases e with
    | normal =>
      obtain ⟨hr3, hi3⟩ := hp
      obtain ⟨hi4, hb4, hg4⟩ := put hI .ready none hi3 (bk3 hr3)
      exact ⟨_, _, ends none (bk3 hr3), put3 _ _ hr3 hg4, .inl ⟨rfl, hi4, hb4⟩⟩
    | ret => exact leave .ret hp.1 hp.2
    | exit id => exact leave (.exit id) hp.1 hp.2
    | goto t => exact leave (.goto t) hp.1 hp.2
    | panic ch => exact hp.elim
    | outgrown => exact hp.elim
  · -- behind the iterator
    have hrw : ∀ st pe st', ({ rc st pe with state := st' } : Loop) = rc st' pe := by rw [hrc]; intros; rfl
    have hrs : ∀ st pe, (rc st pe).state = st := by rw [hrc]; intros; rfl
    have hpe : ∀ st pe, (rc st pe).pending = pe := by rw [hrc]; intros; rfl
    rintro e W2 ⟨⟨v, rfl⟩, hr2, hj⟩
    rcases hj with ⟨hi, hb⟩ | ⟨pre, hpre, c, hi, hb⟩
    · obtain ⟨hi3, hb3, hg3⟩ := put hI .exhausted none hi hb
      obtain ⟨-, d2, d3, -, d5⟩ := hBi.1 hb3
      have := run_endLoop (P := P) (hBi.1 hb).1 (by rw [hrs]; simp)
      rw [hrw, hpe] at this
      exact ⟨none, _, this, hdone _ _ (Nat.le_refl _) d3 d5 hi3 d2⟩
    · obtain ⟨hi3, hb3, hg3⟩ := put (hIx c) .exhausted (some c) hi hb
      obtain ⟨-, d2, d3, -, d5⟩ := hBi.1 hb3
      have := run_endLoop (P := P) (hBi.1 hb).1 (by rw [hrs]; simp)
      rw [hrw, hpe] at this
      exact ⟨some c, _, this, hstop _ c pre _ (Nat.le_refl _) d3 hpre d5 hi3 d2⟩
end
end Go.Proofs.Ytcbdcdpoackplaa
