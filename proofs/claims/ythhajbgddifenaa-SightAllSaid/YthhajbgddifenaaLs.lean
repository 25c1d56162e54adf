/- The end of LineOf. -/
import Derived.Test.YthhajbgddifenaaLr
namespace Go.Proofs.Ythhajbgddifenaa
open Go.RowKit Go.Shelf

/-- All blocks but those of a line's and a cut's own type are as they were. -/
def Tk (w w' : World) : Prop := ∀ (b : Nat) (t : TypeId) (cs : List Value), Blok w b t cs → t ≠ 25 → t ≠ 32 → Blok w' b t cs
theorem Tk.refl (w : World) : Tk w w := fun _ _ _ h _ _ => h
theorem Tk.put {w w' : World} (h : Tk w w') {p : Addr} {t : TypeId} {cs : List Value} (hb : Blok w' p.block t cs) (ht : t = 25 ∨ t = 32) (u : Value) : Tk w (w'.setCell p u) := fun b t' cs' h0 h1 h2 => by
  have hne : t' ≠ t := by rcases ht with rfl | rfl <;> assumption
  exact (h b t' cs' h0 h1 h2).far (blok_ne (h b t' cs' h0 h1 h2) hb hne) u
theorem ShapesB.tk {w w' : World} {v : Value} {S : List Shape} (h : ShapesB w v S) (hk : Tk w w') : ShapesB w' v S := by
  obtain ⟨b, c, cur, e, hb, ht⟩ := h
  exact ⟨b, c, cur, e, hk _ _ _ hb (by decide) (by decide), ht⟩
theorem HandsB.tk {w w' : World} {v : Value} {hs : List Hand} (h : HandsB w v hs) (hk : Tk w w') : HandsB w' v hs := by
  obtain ⟨b, c, cur, svs, e, hb, ht, hS⟩ := h
  exact ⟨b, c, cur, svs, e, hk _ _ _ hb (by decide) (by decide), ht, hS.1, fun k a sv h1 h2 => (hS.2 k a sv h1 h2).tk hk⟩
theorem HandsN.tk {B : Nat} {w w' : World} {v : Value} {hs : List Hand} (h : HandsN B w v hs) (hk : Tk w w') : HandsN B w' v hs := by
  obtain ⟨b, c, cur, svs, e, hb, ht, hS, hN⟩ := h
  exact ⟨b, c, cur, svs, e, hk _ _ _ hb (by decide) (by decide), ht, ⟨hS.1, fun k a sv h1 h2 => (hS.2 k a sv h1 h2).tk hk⟩, hN⟩
theorem LightsB.tk {w w' : World} {v : Value} {q : List Light} (h : LightsB w v q) (hk : Tk w w') : LightsB w' v q := by
  rcases h with h | ⟨b, c, cur, e, hb, ht⟩
  · exact .inl h
  · exact .inr ⟨b, c, cur, e, hk _ _ _ hb (by decide) (by decide), ht⟩
theorem SquaresB.tk {w w' : World} {v : Value} {qs : List (List Light)} (h : SquaresB w v qs) (hk : Tk w w') : SquaresB w' v qs := by
  obtain ⟨b, c, cur, lvs, e, hb, ht, hS⟩ := h
  exact ⟨b, c, cur, lvs, e, hk _ _ _ hb (by decide) (by decide), ht, hS.1, fun k q v h1 h2 => (hS.2 k q v h1 h2).tk hk⟩
theorem IntsB.of_own {w : World} {base n : Nat} {v : Value} {l : List Nat} (h : w.ownsRow base 3 1 v n (l.map fun (x : Nat) => Value.int .i64 x)) (hn : n = l.length) (h0 : 0 < n) : IntsB w v l := by
  rcases h.2 with ⟨_, h1⟩ | ⟨g, cap, cur, rfl, hbg, hg, hcap, _, hsz, htake⟩
  · omega
  · refine ⟨g, cap, cur.toList, by rw [hn], by unfold Blok; rw [hg], ?_⟩
    rw [← hn, ← htake, Nat.mul_one]
theorem SquaresN.tk {B : Nat} {w w' : World} {v : Value} {qs : List (List Light)} (h : SquaresN B w v qs) (hk : Tk w w') : SquaresN B w' v qs := by
  obtain ⟨b, c, cur, lvs, e, hb, ht, hS, hN⟩ := h
  exact ⟨b, c, cur, lvs, e, hk _ _ _ hb (by decide) (by decide), ht, ⟨hS.1, fun k q v h1 h2 => (hS.2 k q v h1 h2).tk hk⟩, hN⟩
theorem IntsB.tk {w w' : World} {v : Value} {l : List Nat} (h : IntsB w v l) (hk : Tk w w') : IntsB w' v l := by
  obtain ⟨b, c, cur, e, hb, ht⟩ := h
  exact ⟨b, c, cur, e, hk _ _ _ hb (by decide) (by decide), ht⟩
theorem UrnAt.tk {w w' : World} {g : Nat} (h : UrnAt w g) (hk : Tk w w') : UrnAt w' g := by
  obtain ⟨x, y, h⟩ := h
  exact ⟨x, y, hk _ _ _ h (by decide) (by decide)⟩
theorem line_post {g hm sm qm : Nat} {w wr W : World} {base worn scr hand T : Nat} {hs : List Hand} {vh vsq vv : Value} {lts : ByteArray} {lvs : List Value} {S : List Shape} {qs : List (List Light)} {ks vs : List Nat} {H : Hand}
    (hh : HandsN w.heap.size wr vh hs) (hu : UrnAt wr g) (ho1 : wr.ownsRow base 39 1 vsq qs.length lvs) (hl : SqN w.heap.size wr qs lvs) (ho2 : wr.ownsRow base 3 1 vv vs.length (vs.map fun (x : Nat) => Value.int .i64 x))
    (hle : lts.data.toList = lettersAt S ks) (hp : SqOk worn scr S qs ks vs) (hT : Tk wr W) (hK : Kg g w W) (hH : hs[hand]? = some H) (hS : S = H.shapes) (hok : ∀ h ∈ hs, h.ok ∧ h.shapes.length ≤ sm ∧ ∀ s ∈ h.shapes, s.strokes < 32)
    (hm1 : marksTo S ks vs qs.length ≤ T) (hT40 : T ≤ 40) (hq1 : 1 ≤ qs.length) (hqm : qs.length ≤ qm) (q8 : qm ≤ 8) (hhm : hs.length ≤ hm) (h4 : hm ≤ 4) (hw : worn ≤ 2) (hs2 : scr ≤ 2) (hbase : w.heap.size ≤ base) :
    LinePost g hm sm qm w (.returned (.tuple #[.agg #[vh, .int .i64 worn, .int .i64 scr, .int .i64 T, vsq], .agg #[.int .i64 hand, .string lts, vv]])) W := by
  subst hS
  have hh0 : hand < hs.length := (List.getElem?_eq_some_iff.1 hH).1
  have hvl := hp.2.1
  refine ⟨⟨hs, worn, scr, T, qs⟩, _, vv, hand, ks, vs, lts, H, rfl, ⟨vh, vsq, rfl, hh.toB.tk hT, (SquaresB.of_own ho1 rfl hq1 hl.1).tk hT⟩, ⟨by simp; omega, by simp; omega, fun h hm => (hok h hm).1, by simp; omega, by simp; omega, by simp; omega, hq1, by simp; omega, fun q hq => hp.2.2.2 q hq⟩, hhm, fun h hm => (hok h hm).2, hqm, ⟨hh0, hp.1, hp.2.1, fun i H' q k v h1 h2 h3 h4 => ?_⟩, hH, hm1, hle, (IntsB.of_own ho2 rfl (by omega)).tk hT, fun b n c x0 x1 x2 x3 e => ?_, hu.tk hT, hK⟩
  · have h1 : hs[hand]? = some H' := h1
    rw [hH] at h1
    injection h1 with h1
    subst h1
    exact hp.2.2.1 i q k v h2 h3 h4
  · have e5 : vsq = .slice (some ⟨b, 0, none⟩) n c := by
      injection e with e
      injection e with e
      simp only [List.cons.injEq] at e
      exact e.2.2.2.2.1
    subst e5
    refine ⟨Nat.le_trans hbase (ho1.lt b rfl).1, own_cap ho1 _ _ _ rfl, ?_, (SquaresN.of_own ho1 rfl hq1 hl).tk hT⟩
    have e0 : vh = x0 := by
      injection e with e
      injection e with e
      simp only [List.cons.injEq] at e
      exact e.1
    subst e0
    exact hh.tk hT
section
variable {w : World} {b : Nat} {t : TypeId} {a0 a1 a2 a3 a4 x0 x1 x2 x3 x4 : Value}
/-- Five cells stored one after the other, and three. -/
def put5 (w : World) (b : Nat) (x0 x1 x2 x3 x4 : Value) : World := ((((w.setCell ⟨b, 0, none⟩ x0).setCell ⟨b, 1, none⟩ x1).setCell ⟨b, 2, none⟩ x2).setCell ⟨b, 3, none⟩ x3).setCell ⟨b, 4, none⟩ x4
def put3 (w : World) (b : Nat) (x0 x1 x2 : Value) : World := ((w.setCell ⟨b, 0, none⟩ x0).setCell ⟨b, 1, none⟩ x1).setCell ⟨b, 2, none⟩ x2
theorem Blok.put5 (h : Blok w b t [a0, a1, a2, a3, a4]) (x0 x1 x2 x3 x4 : Value) : Blok (put5 w b x0 x1 x2 x3 x4) b t [x0, x1, x2, x3, x4] := ((((h.put 0 x0).put 1 x1).put 2 x2).put 3 x3).put 4 x4
theorem Blok.put3 (h : Blok w b t [a0, a1, a2]) (x0 x1 x2 : Value) : Blok (put3 w b x0 x1 x2) b t [x0, x1, x2] := ((h.put 0 x0).put 1 x1).put 2 x2
theorem Blok.far5 {k : Nat} {t' : TypeId} {cs : List Value} (h : Blok w k t' cs) (hne : k ≠ b) (x0 x1 x2 x3 x4 : Value) : Blok (Go.Proofs.Ythhajbgddifenaa.put5 w b x0 x1 x2 x3 x4) k t' cs := ((((h.far hne _).far hne _).far hne _).far hne _).far hne _
theorem Blok.far3 {k : Nat} {t' : TypeId} {cs : List Value} (h : Blok w k t' cs) (hne : k ≠ b) (x0 x1 x2 : Value) : Blok (Go.Proofs.Ythhajbgddifenaa.put3 w b x0 x1 x2) k t' cs := ((h.far hne _).far hne _).far hne _
theorem Tk.put5 {v : World} (hk : Tk v w) (h : Blok w b t [a0, a1, a2, a3, a4]) (ht : t = 25 ∨ t = 32) (x0 x1 x2 x3 x4 : Value) : Tk v (Go.Proofs.Ythhajbgddifenaa.put5 w b x0 x1 x2 x3 x4) :=
  ((((hk.put (p := ⟨b, 0, none⟩) h ht x0).put (p := ⟨b, 1, none⟩) (h.put 0 x0) ht x1).put (p := ⟨b, 2, none⟩) ((h.put 0 x0).put 1 x1) ht x2).put (p := ⟨b, 3, none⟩) (((h.put 0 x0).put 1 x1).put 2 x2) ht x3).put (p := ⟨b, 4, none⟩) ((((h.put 0 x0).put 1 x1).put 2 x2).put 3 x3) ht x4
theorem Tk.put3 {v : World} (hk : Tk v w) (h : Blok w b t [a0, a1, a2]) (ht : t = 25 ∨ t = 32) (x0 x1 x2 : Value) : Tk v (Go.Proofs.Ythhajbgddifenaa.put3 w b x0 x1 x2) :=
  ((hk.put (p := ⟨b, 0, none⟩) h ht x0).put (p := ⟨b, 1, none⟩) (h.put 0 x0) ht x1).put (p := ⟨b, 2, none⟩) ((h.put 0 x0).put 1 x1) ht x2
theorem Kg.put5 {g : Nat} {v : World} (hk : Kg g v w) (hb : v.heap.size ≤ b) (x0 x1 x2 x3 x4 : Value) : Kg g v (Go.Proofs.Ythhajbgddifenaa.put5 w b x0 x1 x2 x3 x4) := ((((hk.putNew hb _).putNew hb _).putNew hb _).putNew hb _).putNew hb _
theorem Kg.put3 {g : Nat} {v : World} (hk : Kg g v w) (hb : v.heap.size ≤ b) (x0 x1 x2 : Value) : Kg g v (Go.Proofs.Ythhajbgddifenaa.put3 w b x0 x1 x2) := ((hk.putNew hb _).putNew hb _).putNew hb _
end
theorem Tk.drew {w w' : World} (h : Tk w w') : Tk w w'.drew := h
theorem Blok.drew {w : World} {g : Nat} {t : TypeId} {cs : List Value} (h : Blok w g t cs) : Blok w.drew g t cs := h
theorem results_cell_row2 {P : Program} {fn : Func} {p q : Tmp} {tp tq : TypeId} (h : fn.results = #[.cell p tp, .cell q tq]) (tmps : Array Value) (w : World) (g g' : Nat) (t t' : TypeId) (cs cs' : List Value) (d d' : TypeDesc)
    (hp : tmps.getD p undef = .pointer (some ⟨g, 0, none⟩)) (hq : tmps.getD q undef = .pointer (some ⟨g', 0, none⟩)) (hg : Blok w g t cs) (hg' : Blok w g' t' cs')
    (hu : P.underlying tp = some d) (hu' : P.underlying tq = some d') (hd : (match d with | .struct _ | .array _ _ => true | _ => false) = true) (hd' : (match d' with | .struct _ | .array _ _ => true | _ => false) = true)
    (hi : (P.info? tp).map (·.size) = some cs.toArray.size) (hi' : (P.info? tq).map (·.size) = some cs'.toArray.size) :
    (results fn tmps).run P w = .ok (.tuple #[.agg cs.toArray, .agg cs'.toArray]) w := by
  have hp' : tmps[p]?.getD undef = .pointer (some ⟨g, 0, none⟩) := by simpa using hp
  have hq' : tmps[q]?.getD undef = .pointer (some ⟨g', 0, none⟩) := by simpa using hq
  simp [results, h, hp', hq', asAddr, run_loadVar_row w g t tp cs.toArray (0, 0) d hg hu hd hi, run_loadVar_row w g' t' tq cs'.toArray (0, 0) d' hg' hu' hd' hi']
end Go.Proofs.Ythhajbgddifenaa
