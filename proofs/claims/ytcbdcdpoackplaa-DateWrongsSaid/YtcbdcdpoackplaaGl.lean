/- A law's own dating goes on: one note more, a cell of a variable stored. -/
import Derived.Test.YtcbdcdpoackplaaGj
namespace Go.Proofs.Ytcbdcdpoackplaa
open Go.RowKit Dt

theorem NotesO.far {B : Nat} {w w' : World} {v : Value} {l : List Nt} (h : NotesO w B v l) (hO : ∀ {base size n : Nat} {e : TypeId} {u : Value} {xs : List Value}, (e = 51 ∧ u = v ∨ e = 3) → w.ownsRow base e size u n xs → w'.ownsRow base e size u n xs) : NotesO w' B v l := by
  obtain ⟨xs, e, h1, h2⟩ := h
  exact ⟨xs, e, hO (.inl ⟨rfl, rfl⟩) h1, fun p hp => hO (.inr rfl) (h2 p hp)⟩
section
variable {w W W' : World} {g bd : Nat} {d : Dat} {ys fs : List Int} {ve vn vy vf : Value} {K : List OBlok} {L : List ORow} {N : List (Value × List Nt)}
/-- A note is appended to notes that are none of the dating's. -/
theorem LG.note {v v' vyx : Value} {x : Nt} {l : List Nt} {xs : List (Nt × Value)} (h : LG w g bd d ys fs ve vn vy vf K L [(v, l)] [] W) (hxs : xs.map Prod.fst = l) (hon : W.ownsRow w.heap.size 51 6 v l.length (cellsN xs)) (hyr : ∀ p ∈ xs, IntsO W w.heap.size p.2 p.1.years)
    (hg : W.grownBy W' v.ownBlock) (hn : W'.ownsRow w.heap.size 51 6 v' (l.length + 1) (cellsN xs ++ ntL x vyx)) (hvy : IntsO W w.heap.size vyx x.years) (hdis : ∀ b, v.ownBlock = some b → vn.ownBlock ≠ some b) (hK : ∀ p ∈ K, p.t ≠ 51) (hL : ∀ r ∈ L, r.e ≠ 51) :
    LG w g bd d ys fs ve vn vy vf K L [(v', l ++ [x])] [] W' := by
  have hb : ∀ {t : TypeId} {b : Nat} {cs : List Value}, t ≠ 51 → Blok W b t cs → Blok W' b t cs := fun ht h' => h'.grown hg (own_ne hon h' (fun e => ht e.symm))
  have hO : ∀ {base size n : Nat} {e : TypeId} {u : Value} {cs : List Value}, e ≠ 51 → W.ownsRow base e size u n cs → W'.ownsRow base e size u n cs := fun he h' => own_fx h' (Fx.of_grown hg) (fun b _ _ hb' => own_disj h' hon he b hb')
  have hu : UrnAt W' g := by
    obtain ⟨p, q, hu⟩ := h.lc.urn
    exact ⟨p, q, hb (by decide) hu⟩
  refine ⟨⟨hu, h.lc.hg, h.lc.below.grown hg h.lc.below.size (fun k hk => (hon.lt k hk).1), hb (by decide) h.lc.kd, hb (by decide) h.lc.kw, ?_, hO (by decide) h.lc.oy, hO (by decide) h.lc.of, h.lc.zd⟩, fun p hp => ⟨(h.bl p hp).1, (h.bl p hp).2.1, hb (hK p hp) (h.bl p hp).2.2⟩, fun r hr => ⟨(h.ow r hr).1, hO (hL r hr) (h.ow r hr).2⟩, fun p hp => ?_, by simp⟩
  · obtain ⟨ve', vn', e, h1, xs', h2, h3, h4⟩ := h.lc.dat
    injection e with e
    simp at e
    obtain ⟨rfl, rfl⟩ := e
    exact ⟨_, _, rfl, hO (by decide) h1, xs', h2, own_fx h3 (Fx.of_grown hg) (fun b _ _ hb' e => hdis b e hb'), fun p hp => hO (by decide) (h4 p hp)⟩
  · rw [List.mem_singleton.1 hp]
    refine ⟨xs ++ [(x, vyx)], by rw [List.map_append, hxs]; rfl, ?_, fun p hp => ?_⟩
    · rw [cellsN_snoc, List.length_append]
      exact hn
    · rcases List.mem_append.1 hp with hp | hp
      · exact hO (by decide) (hyr p hp)
      · rw [List.mem_singleton.1 hp]
        exact hO (by decide) hvy
/-- A cell of a variable is stored. -/
theorem LG.put {b : Nat} {t : TypeId} {cs : List Value} {D : List (Value × Dat)} (h : LG w g bd d ys fs ve vn vy vf [⟨b, t, cs⟩] L N D W) (h1 : b ≠ bd) (h2 : b ≠ bd + 1) (ht : t ≠ 3 ∧ t ≠ 39 ∧ t ≠ 51) (hL : ∀ r ∈ L, r.e ≠ t) (i : Nat) (u : Value) :
    LG w g bd d ys fs ve vn vy vf [⟨b, t, cs.set i u⟩] L N D (W.setCell ⟨b, i, none⟩ u) := by
  obtain ⟨k1, k2, k3⟩ := h.bl _ (List.mem_singleton.2 rfl)
  have hO : ∀ {base size n : Nat} {e : TypeId} {v : Value} {xs : List Value}, e ≠ t → W.ownsRow base e size v n xs → (W.setCell ⟨b, i, none⟩ u).ownsRow base e size v n xs := fun he h' => own_far h' (own_ne h' k3 he) u
  have hN : ∀ {v : Value} {l : List Nt}, NotesO W w.heap.size v l → NotesO (W.setCell ⟨b, i, none⟩ u) w.heap.size v l := fun ⟨xs, e, a1, a2⟩ => ⟨xs, e, hO (fun e => ht.2.2 e.symm) a1, fun p hp => hO (fun e => ht.1 e.symm) (a2 p hp)⟩
  have hD : ∀ {v : Value} {x : Dat}, DatO W w.heap.size v x → DatO (W.setCell ⟨b, i, none⟩ u) w.heap.size v x := fun ⟨ve', vn', e, a1, a2⟩ => ⟨ve', vn', e, hO (fun e => ht.2.1 e.symm) a1, hN a2⟩
  refine ⟨⟨h.lc.urn.far (h.lc.urn.ne' k3 k1) u, h.lc.hg, h.lc.below.setCell (p := ⟨b, i, none⟩) k2 u, h.lc.kd.far (fun e => h1 e.symm) u, h.lc.kw.far (fun e => h2 e.symm) u, hD h.lc.dat, hO (fun e => ht.1 e.symm) h.lc.oy, hO (fun e => ht.1 e.symm) h.lc.of, h.lc.zd⟩,
    fun p hp => ?_, fun r hr => ⟨(h.ow r hr).1, hO (hL r hr) (h.ow r hr).2⟩, fun p hp => hN (h.no p hp), fun p hp => hD (h.da p hp)⟩
  rw [List.mem_singleton.1 hp]
  exact ⟨k1, k2, k3.put i u⟩
/-- Eras and notes of one's own are a dating. -/
theorem LG.mkD {va vb : Value} {n st : Nat} {es : List (Int × Int)} {l : List Nt} (h : LG w g bd d ys fs ve vn vy vf K [⟨39, 2, va, n, flatS es⟩] [(vb, l)] [] W) (hn : n = es.length) :
    LG w g bd d ys fs ve vn vy vf K [] [] [(.agg #[.int .i64 st, va, vb], ⟨st, es, l⟩)] W :=
  ⟨h.lc, h.bl, by simp, by simp, fun p hp => by
    rw [List.mem_singleton.1 hp]
    exact ⟨va, vb, rfl, by rw [SpansO, ← hn]; exact (h.ow _ (List.mem_singleton.2 rfl)).2, h.no _ (List.mem_singleton.2 rfl)⟩⟩
end
end Go.Proofs.Ytcbdcdpoackplaa
