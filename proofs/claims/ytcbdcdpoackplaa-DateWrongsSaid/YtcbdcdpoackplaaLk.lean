/- choose: what is left, for each choice of ways, is handed out. -/
import Derived.Test.YtcbdcdpoackplaaLj
import Derived.Test.YtcbdcdpoackplaaLe
import Derived.Test.YtcbdcdpoackplaaLn
import Derived.Test.YtcbdcdpoackplaaDd
import Derived.Test.YtcbdcdpoackplaaRm
import Derived.Sort.CutIn
import Derived.Test.YtcbdcdpoackplaaLq
namespace Go.Proofs.Ytcbdcdpoackplaa
open Go.RowKit Go.Shelf Dt

attribute [local go_sem] Oper.semAt_some
attribute [local go_sem ↓] ld_b st_b ld_w
attribute [local go_sem] run_stB
theorem yieldAt_any {m : Nat} (m' : Nat) {P : Program} {l : Nat} {args : Array Value} {W : World} {R : Ending → World → Prop} (h : YieldAt Fence.wide m P l args W R) : YieldAt Fence.wide m' P l args W R := by
  obtain ⟨fn, tmps, assign, body, hy, hR⟩ := h
  exact ⟨fn, tmps, assign, body, hy, hR.1, fun c cs _ => hR.2 c cs (fun d h => by cases h)⟩
theorem scope_wide {n : Nat} {P : Program} {c : Code} {Q : Exit → Act → World → Prop} {a : Act} {w : World} (h : c.wpIn Fence.wide n P (Exit.noGoto Q) a w) : (Code.scope c).wpIn Fence.wide n P Q a w :=
  wpIn_wide.2 (wp_scope_straight (wpIn_wide.1 h))
/-- What choose comes to: it has handed out all, or has been stopped. -/
def Chosen (n₀ : Nat) (G : World → Nat → Prop) (J Jx : List Mat → World → Prop) (pre out : List Mat) (W : World) (e : Ending) (W' : World) : Prop :=
  Rnd n₀ G W W' ∧ ((e = .returned (.bool true) ∧ J (pre ++ out) W') ∨ (e = .returned (.bool false) ∧ ∃ q, q <+: out ∧ Jx (pre ++ q) W'))
theorem Chosen.bool {n₀ : Nat} {G : World → Nat → Prop} {J Jx : List Mat → World → Prop} {pre out : List Mat} {W : World} {e : Ending} {W' : World} (h : Chosen n₀ G J Jx pre out W e W') :
    ∃ r : Bool, e = .returned (.bool r) ∧ Rnd n₀ G W W' ∧ (r = true → J (pre ++ out) W') ∧ (r = false → ∃ q, q <+: out ∧ Jx (pre ++ q) W') := by
  obtain ⟨h1, ⟨rfl, h2⟩ | ⟨rfl, h2⟩⟩ := h
  · exact ⟨true, rfl, h1, (fun _ => h2), (fun h => by cases h)⟩
  · exact ⟨false, rfl, h1, (fun h => by cases h), (fun _ => h2)⟩
/-- The consumer's rounds. -/
def Takes (m : Nat) (n₀ l : Nat) (G : World → Nat → Prop) (J Jx : List Mat → World → Prop) (all : List Mat) : Prop :=
  ∀ pre M W1, J pre W1 → pre ++ [M] <+: all → YieldAt Fence.wide m Try.prog l #[.agg (cellsM M).toArray] W1 fun e W' =>
    Rnd n₀ G W1 W' ∧ ((e = .returned (.bool true) ∧ J (pre ++ [M]) W') ∨ (e = .returned (.bool false) ∧ Jx (pre ++ [M]) W'))
set_option maxRecDepth 100000 in
set_option maxHeartbeats 1000000 in
theorem choose_nil (m n₀ l : Nat) (G : World → Nat → Prop) (J Jx : List Mat → World → Prop) (all : List Mat) (hY : Takes m n₀ l G J Jx all) (M : Mat) (pre : List Mat) (n c : Nat) (W : World) (A : Option Addr) (cp : Nat)
    (hJ : Keeps c G J) (hJx : Keeps c G Jx) (hc : c ≤ W.heap.size) (hn₀ : n₀ ≤ W.heap.size) (hall : pre ++ [M] <+: all) (h0 : J pre W) :
    CallsIn Fence.wide n Try.prog 74 #[.agg (cellsM M).toArray, .slice A 0 cp, .func (.yield l) #[] #[]] W (Chosen n₀ G J Jx pre [M] W) := by
  have hb : Below W.heap.size W ((((W.alloc (.cells (cellsM M).toArray 77)).alloc (.cells #[.slice A 0 cp] 99)).alloc (.cells #[.func (.yield l) #[] #[]] 79)).alloc (.cells #[.bool false] 4)) := (((((Below.refl _ W).alloc (Nat.le_refl _) _).alloc (by simp) _).alloc (by simp; omega) _).alloc (by simp; omega) _)
  obtain ⟨hj1, hr1⟩ := hJ.rnd h0 hc hn₀ hb
  have hfr := hJ.fresh h0 hc hb
  obtain ⟨fn, tmps, assign, body, hy, hR⟩ := yieldAt_any (n - 1) (hY pre M _ hj1 hall)
  refine callsIn_of_wp Try.func74 rfl trivial ?_ rfl
  simp only [Try.ntmps74, List.size_toArray, List.length_cons, List.length_nil, Nat.reduceAdd, Nat.reduceSub, Array.replicate_succ, Array.replicate_zero, List.push_toArray, List.append_toArray, List.nil_append, List.cons_append]
  have HR1 := Lib.hid hr1
  have HRES := Lib.hid (show Blok _ (W.heap.size + 1 + 1 + 1) 4 [.bool false] from by
    have := Blok.new (((W.alloc (.cells (cellsM M).toArray 77)).alloc (.cells #[.slice A 0 cp] 99)).alloc (.cells #[.func (.yield l) #[] #[]] 79)) 4 [.bool false]
    simpa only [World.size_alloc] using this)
  have HFR := Lib.hid (hfr (W.heap.size + 1 + 1 + 1) (by omega))
  clear hb hj1 hr1 hY hfr
  gi_wp2_with fail
  refine scope_wide ?_
  gi_wp2_with (rw [run_ldB _ _ _ M (World.rangeAt_alloc (World.rangeAt_alloc (World.rangeAt_alloc (ra_new _ _ rfl _ _ _) _) _) _)])
  refine ⟨(fun h => by cases h), hR.mono ?_⟩
  clear hR hy
  rintro e W3 ⟨hr3, h3⟩
  have H3 : (e = .returned (.bool true) ∧ J (pre ++ [M]) W3) ∨ (e = .returned (.bool false) ∧ Jx (pre ++ [M]) W3) := h3
  clear h3
  have hres := hr3.blok HFR.out HRES.out
  have hfr3 := hr3.none (by have := HRES.out.size; exact this) HFR.out
  have hr13 := HR1.out.trans hr3
  have c3 := hres.cell 0
  have f3 := hres.free 0
  simp at c3
  have HR3 := Lib.hid hr13
  have HF3 := Lib.hid hfr3
  have HB3 := Lib.hid hres
  clear hr3 hres hfr3 hr13
  rcases H3 with ⟨rfl, hj3⟩ | ⟨rfl, hj3⟩
  · have HJ3 := Lib.hid hj3
    clear hj3
    gi_wp2_with fail
    rw [Exit.noGoto_ret]
    obtain ⟨hj4, hs4⟩ := hJ.put HJ3.out (k := W.heap.size + 1 + 1 + 1) (by omega) HF3.out 0 (.bool true)
    refine bodyPost_ret (v := .bool true) ?_ rfl ⟨HR3.out.put (by omega) (by omega) 0 _ hs4, .inl ⟨rfl, hj4⟩⟩
    have := (HB3.out.put 0 (.bool true)).cell 0
    simp at this
    simp [results, Try.results74, go_sem, this]
  · have HJ3 := Lib.hid hj3
    clear hj3
    gi_wp2_with fail
    rw [Exit.noGoto_ret]
    obtain ⟨hj4, hs4⟩ := hJx.put HJ3.out (k := W.heap.size + 1 + 1 + 1) (by omega) HF3.out 0 (.bool false)
    refine bodyPost_ret (v := .bool false) ?_ rfl ⟨HR3.out.put (by omega) (by omega) 0 _ hs4, .inr ⟨rfl, _, List.prefix_refl _, hj4⟩⟩
    have := (HB3.out.put 0 (.bool false)).cell 0
    simp at this
    simp [results, Try.results74, go_sem, this]
/-- Which function hands out the ways of a note. -/
def waysF (x : Nt) : FuncId := if x.kind = 1 then 121 else if x.kind = 2 then 125 else if x.kind = 3 then 129 else 131
theorem run_waysM (x : Nt) (u : Value) (w : World) : (method 268 (noteT x) u "cippus/date.ways").run Try.prog w = .ok (waysF x, u) w := by
  unfold noteT waysF
  split
  · kernel_rfl
  · split
    · kernel_rfl
    · split
      · kernel_rfl
      · kernel_rfl
theorem run_waysC (x : Nt) (u : Value) (w : World) : (callFunc (waysF x) #[u]).run Try.prog w = .ok (.enter (waysF x) #[u]) w := by
  unfold waysF
  split
  · kernel_rfl
  · split
    · kernel_rfl
    · split
      · kernel_rfl
      · kernel_rfl
theorem ways_any (d : Dat) (hd : d.Ok) (x : Nt) (hx : x.Ok d) (B : Nat) (v : Value) (w : World) (hB : B ≤ w.heap.size) (hv : NtV w B x v) : Calls Try.prog (waysF x) #[v] w (WaysPost B x w) := by
  unfold waysF
  split
  · rename_i h
    exact ways_years d x hx h B v w hB hv
  · split
    · rename_i h
      exact ways_within d hd x hx h B v w hv
    · split
      · rename_i h
        exact ways_era d hd x hx h B v w hv
      · rename_i h1 h2 h3
        exact ways_after d hd x hx (by have := hx.kind; omega) B v w hv
def lim (w : Dt.Way) (q : Nat) : Lim := if q = 0 then w.1 else w.2
def stage (M : Mat) (w : Dt.Way) (q : Nat) : Mat := if q = 0 then M else if q = 1 then cut M w.1 else cut (cut M w.1) w.2
theorem stage_succ (M : Mat) (w : Dt.Way) (q : Nat) (h : q < 2) : cut (stage M w q) (lim w q) = stage M w (q + 1) := by
  have : q = 0 ∨ q = 1 := by omega
  rcases this with rfl | rfl <;> rfl
theorem run_idxW (w : World) (wy : Dt.Way) (q : Nat) (hq : q < 2) : (Instr.index 130 (wayV wy) (.int .i64 q)).run Try.prog w = .ok (.agg #[.int .i64 (lim wy q).a, .int .i64 (lim wy q).b, .int .i64 (lim wy q).y]) w := by
  have h0 : (Instr.index 130 (wayV wy) (.int .i64 ((0 : Nat) : Int))).run Try.prog w = .ok (.agg #[.int .i64 wy.1.a, .int .i64 wy.1.b, .int .i64 wy.1.y]) w := by kernel_rfl
  have h1 : (Instr.index 130 (wayV wy) (.int .i64 ((1 : Nat) : Int))).run Try.prog w = .ok (.agg #[.int .i64 wy.2.a, .int .i64 wy.2.b, .int .i64 wy.2.y]) w := by kernel_rfl
  have : q = 0 ∨ q = 1 := by omega
  rcases this with rfl | rfl
  · exact h0
  · exact h1
/-- How far a round has come with its way. -/
structure StI (M : Mat) (wy : Dt.Way) (Wb : World) (q : Nat) (wr : World) : Prop where
  low : Below Wb.heap.size Wb wr
  nxt : Blok wr Wb.heap.size 77 (cellsM (stage M wy q))
  cl : Closed 10 (stage M wy q)
  sm : Small (stage M wy q)
  r1 : 1 ≤ q → refuses M wy.1 = false
  r2 : 2 ≤ q → refuses (cut M wy.1) wy.2 = false
/-- choose's own blocks. -/
structure ChB (s : Nat) (M : Mat) (vn : Value) (l : Nat) (w : World) : Prop where
  known : Blok w s 77 (cellsM M)
  notes : Blok w (s + 1) 99 [vn]
  yield : Blok w (s + 1 + 1) 79 [.func (.yield l) #[] #[]]
/-- Between two rounds of choose's loop. -/
def ChI (G : World → Nat → Prop) (J : List Mat → World → Prop) (pre : List Mat) (f : Mat → List Mat) (s : Nat) (M : Mat) (vn : Value) (l : Nat) (ws : List Dt.Way) (w : World) : Prop :=
  J (pre ++ outs f M ws) w ∧ NoEnd 10 M ws ∧ ChB s M vn l w ∧ Blok w (s + 1 + 1 + 1) 4 [.bool false] ∧ ∀ k, s ≤ k → k < s + 4 → ¬ G w k
/-- A round has left. -/
def ChX (G : World → Nat → Prop) (J Jx : List Mat → World → Prop) (pre total : List Mat) (s : Nat) (cd : Code) (_ : List Dt.Way) (w : World) : Prop :=
  Blok w (s + 1 + 1 + 1) 4 [.bool false] ∧ ¬ G w (s + 1 + 1 + 1) ∧ ((cd = .ret ∧ ∃ q, q <+: total ∧ Jx (pre ++ q) w) ∨ (cd = .exit 0 ∧ J (pre ++ total) w))
section
variable {G : World → Nat → Prop} {J Jx : List Mat → World → Prop} {c : Nat}
theorem ChB.below {s : Nat} {M : Mat} {vn : Value} {l : Nat} {w w' : World} {B : Nat} (h : ChB s M vn l w) (hb : Below B w w') (hB : s + 3 ≤ B) : ChB s M vn l w' :=
  ⟨h.known.below hb (by omega), h.notes.below hb (by omega), h.yield.below hb (by omega)⟩
theorem ChB.rnd {s : Nat} {M : Mat} {vn : Value} {l n₀ : Nat} {w w' : World} (h : ChB s M vn l w) (hr : Rnd n₀ G w w') (hg : ∀ k, s ≤ k → k < s + 4 → ¬ G w k) : ChB s M vn l w' :=
  ⟨hr.blok (hg _ (by omega) (by omega)) h.known, hr.blok (hg _ (by omega) (by omega)) h.notes, hr.blok (hg _ (by omega) (by omega)) h.yield⟩
theorem keeps_chI (hJ : Keeps c G J) (pre : List Mat) (f : Mat → List Mat) (s : Nat) (M : Mat) (vn : Value) (l B : Nat) (hc : c ≤ B) (hB : s + 4 ≤ B) : Keeps B (AddB G (s + 1 + 1 + 1)) (ChI G J pre f s M vn l) := by
  refine ⟨fun ws w w' ⟨h1, h2, h3, h4, h5⟩ hi => ?_, fun ws w b ⟨h1, h2, h3, h4, h5⟩ hg => ?_⟩
  · obtain ⟨h6, h7⟩ := hJ.step _ w w' h1 ⟨hi.below.mono hc, fun b hg => hi.kept b (.inl hg)⟩
    refine ⟨⟨h6, h2, h3.below hi.below (by omega), h4.below hi.below (by omega), fun k hk hk2 hg => h5 k hk hk2 (h7 k hg)⟩, fun b hg => ?_⟩
    rcases hg with hg | hg
    · exact .inl (h7 b hg)
    · exact .inr hg
  · rcases hg with hg | rfl
    · exact hJ.lies _ w b h1 hg
    · exact h4.size
theorem keeps_chX (hJ : Keeps c G J) (hJx : Keeps c G Jx) (pre total : List Mat) (s : Nat) (cd : Code) (B : Nat) (hc : c ≤ B) (hB : s + 4 ≤ B) : Keeps B (AddB G (s + 1 + 1 + 1)) (ChX G J Jx pre total s cd) := by
  refine ⟨fun ws w w' ⟨h1, h2, h3⟩ hi => ?_, fun ws w b ⟨h1, h2, h3⟩ hg => ?_⟩
  · have hi' : Itr c G w w' := ⟨hi.below.mono hc, fun b hg => hi.kept b (.inl hg)⟩
    have hsub : (∃ P, P) → ∀ b, G w' b → G w b := by
      intro _
      rcases h3 with ⟨rfl, q, hq, hj⟩ | ⟨rfl, hj⟩
      · exact (hJx.step _ w w' hj hi').2
      · exact (hJ.step _ w w' hj hi').2
    have hsub := hsub ⟨True, trivial⟩
    refine ⟨⟨h1.below hi.below (by omega), fun hg => h2 (hsub _ hg), ?_⟩, fun b hg => ?_⟩
    · rcases h3 with ⟨rfl, q, hq, hj⟩ | ⟨rfl, hj⟩
      · exact .inl ⟨rfl, q, hq, (hJx.step _ w w' hj hi').1⟩
      · exact .inr ⟨rfl, (hJ.step _ w w' hj hi').1⟩
    · rcases hg with hg | hg
      · exact .inl (hsub b hg)
      · exact .inr hg
  · rcases hg with hg | rfl
    · rcases h3 with ⟨rfl, q, hq, hj⟩ | ⟨rfl, hj⟩
      · exact hJx.lies _ w b hj hg
      · exact hJ.lies _ w b hj hg
    · exact h1.size
end
theorem WayBox.is {B : Nat} {x : Nt} {gf c : Nat} {w : World} (h : WayBox B x gf c w) : gf = 122 ∨ gf = 127 := by
  rcases h with ⟨-, h, -⟩ | ⟨-, h, -⟩
  · exact .inl h
  · exact .inr h
theorem WayBox.enters {B : Nat} {x : Nt} {gf c : Nat} {w : World} (h : WayBox B x gf c w) : ∀ args w, (callFunc gf args).run Try.prog w = .ok (.enter gf args) w := by
  rcases h.is with rfl | rfl
  · exact enters_of Try.func122 (by kernel_rfl) rfl
  · exact enters_of Try.func127 (by kernel_rfl) rfl
theorem WayBox.below {B B' : Nat} {x : Nt} {gf c : Nat} {w w' : World} (h : WayBox B x gf c w) (hb : Below B' w w') (hc : c < B') (hB : B ≤ B') : WayBox B x gf c w' := by
  rcases h with ⟨h1, h2, vy, h3, h4⟩ | ⟨h1, h2, wy, h3, h4⟩
  · exact .inl ⟨h1, h2, vy, h3.below hb hc, h4.keep (Same.of_below (hb.mono hB)) (Nat.le_refl _)⟩
  · exact .inr ⟨h1, h2, wy, h3, h4.below hb hc⟩
/-- Notes behind interfaces in a row that is none of the loop's; their years lie below n₀. -/
def IfNG (G : World → Nat → Prop) (n₀ : Nat) (W : World) (v : Value) (l : List Nt) : Prop :=
  ∃ A c, v = .slice A l.length c ∧ l.length ≤ c ∧ (0 < l.length → ∃ b o, A = some ⟨b, o, none⟩ ∧ b < W.heap.size ∧ ¬ G W b ∧ ∀ (k : Nat) (x : Nt), l[k]? = some x → ∃ vy, W.cell? ⟨b, o + k, none⟩ = some (ifV x vy) ∧ Ints W n₀ vy x.years)
theorem cell_of_heap {W W' : World} {b : Nat} (h : W'.heap[b]? = W.heap[b]?) (o : Nat) : W'.cell? ⟨b, o, none⟩ = W.cell? ⟨b, o, none⟩ := by
  simp only [World.cell?, h]
theorem IfNG.rnd {G : World → Nat → Prop} {n₀ : Nat} {W W' : World} {v : Value} {l : List Nt} (h : IfNG G n₀ W v l) (hr : Rnd n₀ G W W') : IfNG G n₀ W' v l := by
  obtain ⟨A, c, h1, h2, h3⟩ := h
  refine ⟨A, c, h1, h2, fun h0 => ?_⟩
  obtain ⟨b, o, h4, h5, h6, h7⟩ := h3 h0
  refine ⟨b, o, h4, Nat.lt_of_lt_of_le h5 hr.below.size, hr.none h5 h6, fun k x hx => ?_⟩
  obtain ⟨vy, h8, h9⟩ := h7 k x hx
  exact ⟨vy, (cell_of_heap (hr.rest b h5 h6) _).trans h8, h9.keep (Same.of_below hr.below) (Nat.le_refl _)⟩
theorem IfNotes.free {G : World → Nat → Prop} {n₀ : Nat} {W : World} {v : Value} {l : List Nt} (h : IfNotes W n₀ v l) (hB : n₀ ≤ W.heap.size) (hG : ∀ b, b < n₀ → ¬ G W b) : IfNG G n₀ W v l := by
  obtain ⟨A, c, h1, h2, h3⟩ := h
  refine ⟨A, c, h1, h2, fun h0 => ?_⟩
  obtain ⟨b, o, h4, h5, h6⟩ := h3 h0
  exact ⟨b, o, h4, by omega, hG b h5, h6⟩
set_option maxRecDepth 100000 in
set_option maxHeartbeats 1000000 in
theorem choose_cons (d : Dat) (hd : d.Ok) (x : Nt) (hx : x.Ok d) (ns : List Nt) (n₀ l : Nat) (G : World → Nat → Prop) (J Jx : List Mat → World → Prop) (all : List Mat) (c : Nat)
    (hJ : Keeps c G J) (hJx : Keeps c G Jx)
    (ih : ∀ (M : Mat) (pre : List Mat) (n : Nat) (W : World) (v : Value), Closed 10 M → Small M → IfNG G n₀ W v ns → c ≤ W.heap.size → n₀ ≤ W.heap.size → pre ++ chooseP 10 (ns.map Nt.ways) M <+: all → J pre W →
      CallsIn Fence.wide n Try.prog 74 #[.agg (cellsM M).toArray, v, .func (.yield l) #[] #[]] W (Chosen n₀ G J Jx pre (chooseP 10 (ns.map Nt.ways) M) W))
    (M : Mat) (pre : List Mat) (n : Nat) (W : World) (v : Value) (hM : Closed 10 M) (hS : Small M) (hv : IfNG G n₀ W v (x :: ns)) (hc : c ≤ W.heap.size) (hn₀ : n₀ ≤ W.heap.size)
    (hall : pre ++ chooseP 10 ((x :: ns).map Nt.ways) M <+: all) (h0 : J pre W) :
    CallsIn Fence.wide n Try.prog 74 #[.agg (cellsM M).toArray, v, .func (.yield l) #[] #[]] W (Chosen n₀ G J Jx pre (chooseP 10 ((x :: ns).map Nt.ways) M) W) := by
  have hv0 := hv
  obtain ⟨A, cp, rfl, hcap, hA⟩ := hv
  obtain ⟨b, o, rfl, hb, hgb, hR⟩ := hA (by simp)
  clear hgb
  obtain ⟨vy, hcell, hy⟩ := hR 0 x rfl
  have hif : W.cell? ⟨b, o, none⟩ = some (.iface (noteT x) (.agg (ntL x vy).toArray)) := hcell
  clear hA hR hcell
  obtain ⟨k, hk⟩ : ∃ k, k = ns.length := ⟨_, rfl⟩
  rw [List.length_cons, ← hk]
  rw [List.length_cons, ← hk] at hv0 hcap
  have HK := Lib.hid hk
  have HV := Lib.hid hv0
  clear hk hv0
  have hbW : b < W.heap.size := by omega
  have hbW1 : b < W.heap.size + 1 := by omega
  have hbW2 : b < W.heap.size + 1 + 1 := by omega
  have hbW3 : b < W.heap.size + 1 + 1 + 1 := by omega
  have d13 : ((k : Int) + 1 == 0) = false := by simp; omega
  refine callsIn_of_wp_marks Try.func74 rfl trivial ?_ rfl
  simp only [Try.ntmps74, List.size_toArray, List.length_cons, List.length_nil, Nat.reduceAdd, Nat.reduceSub, Array.replicate_succ, Array.replicate_zero, List.push_toArray, List.append_toArray, List.nil_append, List.cons_append]
  gi_wp2_with fail
  refine scope_wide ?_
  gi_wp2_with fail
  refine wpIn_label ?_
  have hrm := run_waysM x (.agg (ntL x vy).toArray)
  have hrc := run_waysC x (.agg (ntL x vy).toArray)
  gi_wp2_with fail
  clear hrm hrc hbW hbW1 hbW2 hbW3 hif
  obtain ⟨W4, hW4⟩ : ∃ W4, W4 = ((((W.alloc (.cells (cellsM M).toArray 77)).alloc (.cells #[.slice (some ⟨b, o, none⟩) (k + 1) cp] 99)).alloc (.cells #[.func (.yield l) #[] #[]] 79)).alloc (.cells #[.bool false] 4)) := ⟨_, rfl⟩
  have b4 : Below W.heap.size W W4 := by rw [hW4]; exact (((((Below.refl _ W).alloc (Nat.le_refl _) _).alloc (by simp) _).alloc (by simp; omega) _).alloc (by simp; omega) _)
  have z4 : W4.heap.size = W.heap.size + 1 + 1 + 1 + 1 := by rw [hW4]; simp
  have k0 : Blok W4 W.heap.size 77 (cellsM M) := by rw [hW4]; exact (((Blok.new W _ _).alloc _).alloc _).alloc _
  have k1 : Blok W4 (W.heap.size + 1) 99 [.slice (some ⟨b, o, none⟩) (k + 1) cp] := by
    rw [hW4]
    have := ((Blok.new (W.alloc (.cells (cellsM M).toArray 77)) 99 [.slice (some ⟨b, o, none⟩) (k + 1) cp]).alloc (.cells #[.func (.yield l) #[] #[]] 79)).alloc (.cells #[.bool false] 4)
    simpa only [World.size_alloc] using this
  have k2 : Blok W4 (W.heap.size + 1 + 1) 79 [.func (.yield l) #[] #[]] := by
    rw [hW4]
    have := (Blok.new ((W.alloc (.cells (cellsM M).toArray 77)).alloc (.cells #[.slice (some ⟨b, o, none⟩) (k + 1) cp] 99)) 79 [.func (.yield l) #[] #[]]).alloc (.cells #[.bool false] 4)
    simpa only [World.size_alloc] using this
  have k3 : Blok W4 (W.heap.size + 1 + 1 + 1) 4 [.bool false] := by
    rw [hW4]
    have := Blok.new (((W.alloc (.cells (cellsM M).toArray 77)).alloc (.cells #[.slice (some ⟨b, o, none⟩) (k + 1) cp] 99)).alloc (.cells #[.func (.yield l) #[] #[]] 79)) 4 [.bool false]
    simpa only [World.size_alloc] using this
  rw [← hW4]
  clear hW4
  refine ⟨trivial, (fun h => by cases h), (callsIn_wide.2 (ways_any d hd x hx n₀ _ _ (by omega) ⟨vy, rfl, hy.keep (Same.of_below (b4.mono hn₀)) (Nat.le_refl _)⟩)).mono ?_⟩
  rintro e w1 ⟨hb1, gf, bc, rfl, hle, hlt, hbox⟩
  have b1 : Below W.heap.size W w1 := b4.trans (hb1.mono (by omega))
  obtain ⟨hj1, hr1⟩ := hJ.rnd h0 hc hn₀ b1
  have hfr := hJ.fresh h0 hc b1
  have z1 : W.heap.size + 4 ≤ w1.heap.size := by have := hb1.size; omega
  have cb1 : ChB W.heap.size M (.slice (some ⟨b, o, none⟩) (k + 1) cp) l w1 := ⟨k0.below hb1 (by omega), k1.below hb1 (by omega), k2.below hb1 (by omega)⟩
  have k31 := k3.below hb1 (by omega)
  gi_wp2_with fail
  obtain ⟨f, hf⟩ : ∃ f, f = chooseP 10 (ns.map Nt.ways) := ⟨_, rfl⟩
  have htot : chooseP 10 ((x :: ns).map Nt.ways) M = goWays 10 f M x.ways := by rw [hf]; rfl
  rw [htot] at hall ⊢
  rw [← hf] at ih
  have HT := Lib.hid htot
  clear htot hf
  refine range_any rfl (fun h => by cases h) (gf := gf) (lb := #[.pointer (some ⟨bc, 0, none⟩)]) rfl trivial hbox.enters (gives_ways (n - 1) d hd x hx gf bc n₀ ⟨w1, hbox⟩) (fun _ => rfl) (by omega)
    (AddB G (W.heap.size + 1 + 1 + 1)) (ChI G J pre f W.heap.size M (.slice (some ⟨b, o, none⟩) (k + 1) cp) l) (ChX G J Jx pre (goWays 10 f M x.ways) W.heap.size)
    (keeps_chI hJ _ _ _ _ _ _ _ (by omega) z1) (fun cd => keeps_chX hJ hJx _ _ _ cd _ (by omega) z1)
    ⟨by simpa [outs] using hj1, fun w hw => absurd hw (by simp), cb1, k31, fun k hk _ => hfr k hk⟩
    (fun W' G' hb' hg' => ⟨by have := hb'.size; omega, hbox.below hb' hlt (by omega), fun hg => by
      rcases hg' bc hg with (h | h) | h
      · exact hfr bc (by omega) h
      · omega
      · omega⟩)
    (fun wy a' w' => ∃ B, Blok w' B 130 (wayL wy) ∧ a' = { tmps := #[.agg (cellsM M).toArray, .slice (some ⟨b, o, none⟩) (k + 1) cp, .func (.yield l) #[] #[], .pointer (some ⟨W.heap.size, 0, none⟩), .pointer (some ⟨W.heap.size + 1, 0, none⟩), .pointer (some ⟨W.heap.size + 1 + 1, 0, none⟩), .pointer (some ⟨W.heap.size + 1 + 1 + 1, 0, none⟩), .pointer (some ⟨B, 0, none⟩), undef, undef, undef,
      .slice (some ⟨b, o, none⟩) (k + 1) cp, .int .i64 (k + 1), .bool false, undef, undef, undef, .slice (some ⟨b, o, none⟩) (k + 1) cp, .pointer (some ⟨b, o, none⟩), .iface (noteT x) (.agg (ntL x vy).toArray), .func (.func gf) #[] #[.pointer (some ⟨bc, 0, none⟩)], wayV wy, undef, undef, undef, undef, undef, undef, undef, undef, undef, undef, undef, undef, undef, undef, undef, undef, undef, undef, undef, undef, undef], defers := [] })
    (fun wy a' w' ll r r' ⟨B, hB, ha⟩ hl => ⟨B, hB.putObj hl _, ha⟩)
    ?assign ?body ?done ?stop
  case assign =>
    intro ll pre' wy w' K hsz hi hK
    have hb' : Below w'.heap.size w' (w'.alloc (.cells (wayL wy).toArray 130)) := (Below.refl _ _).alloc (Nat.le_refl _) _
    obtain ⟨hi2, hr2⟩ := (keeps_chI hJ pre f W.heap.size M (.slice (some ⟨b, o, none⟩) (k + 1) cp) l _ (by omega) z1).rnd (n₀ := n₀) hi (show w1.heap.size ≤ w'.heap.size by omega) (by omega) hb'
    have hK2 := hK _ _ hr2 hi2 ⟨w'.heap.size, Blok.new w' _ _, rfl⟩
    have HK2 := Lib.hid hK2
    clear hK hK2 hi2 hr2 hi
    unfold wayV wayL
    gi_wp2_with fail
    exact HK2.out
  case body =>
    rintro ll pre' wy a' Wb hszb hpre hrb hIb ⟨B, hB, rfl⟩
    have HI := Lib.hid hIb
    have HKI := Lib.hid (keeps_chI hJ pre f W.heap.size M (.slice (some ⟨b, o, none⟩) (k + 1) cp) l w1.heap.size (by omega) z1)
    obtain ⟨jb, nb, cbb, k3b, gb⟩ := hIb
    have HPRE := Lib.hid hpre
    have hwy : wy ∈ x.ways := by
      obtain ⟨r, hr⟩ := hpre
      rw [← hr]
      simp
    have hinn := ways_inn hd hx wy hwy
    obtain ⟨ys1, ys2⟩ := ways_small hx wy hwy
    have s0 : StI M wy Wb 0 (Wb.alloc (.cells (cellsM M).toArray 77)) := ⟨(Below.refl _ _).alloc (Nat.le_refl _) _, Blok.new Wb _ _, hM, hS, fun h => by omega, fun h => by omega⟩
    gi_wp2_with (first | rw [run_ldB _ _ _ M cbb.known.range] | rw [run_ldW _ _ wy (hB.alloc _)])
    gi_loopg [24] 2 (fun g i wr => ∃ q : Nat, q + g = 2 ∧ i = .int .i64 q ∧ StI M wy Wb q wr)
    case atStart => exact ⟨0, by omega, rfl, s0⟩
    case round =>
      obtain ⟨q, hqg, rfl, hst⟩ := hrel
      cases gk with
      | zero =>
        obtain rfl : q = 2 := by omega
        have hleft : left M wy = some (stage M wy 2) := by
          have h1 := hst.r1 (by omega)
          have h2 := hst.r2 (by omega)
          simp [left, h1, h2, stage]
        obtain ⟨hIr, hRr⟩ := HKI.out.rnd HI.out (show w1.heap.size ≤ Wb.heap.size by omega) (show n₀ ≤ Wb.heap.size by omega) hst.low
        have c35 := hIr.2.2.1.notes.cell 0
        have c37 := hIr.2.2.1.yield.cell 0
        simp at c35 c37
        have hld := run_ldB wr.drew Wb.heap.size 0 _ (show Blok wr.drew Wb.heap.size 77 _ from hst.nxt).range
        obtain ⟨M2, hM2⟩ : ∃ M2, M2 = stage M wy 2 := ⟨_, rfl⟩
        have hnx := hst.nxt
        have hcl := hst.cl
        have hsm := hst.sm
        have hlow := hst.low
        rw [← hM2] at hleft hnx hcl hsm hld
        have hnext := goWays_next (f := f) hpre nb hleft
        have hpall : pre ++ outs f M pre' ++ f M2 <+: all := by
          rw [List.append_assoc]
          exact List.IsPrefix.trans ((List.prefix_append_right_inj pre).2 hnext) hall
        have hbel : Below n₀ W wr := hr1.below.trans ((hrb.below).trans (hlow.mono (by omega)))
        have hsz2 : W.heap.size + 4 ≤ wr.heap.size := by have := hlow.size; omega
        obtain ⟨hjd, hsd⟩ := hJ.drew hIr.1 1
        have hih : ∀ v', IfNG G n₀ wr.drew v' ns → CallsIn Fence.wide (n - 1 - 1 - 1) Try.prog 74 #[.agg (cellsM M2).toArray, v', .func (.yield l) #[] #[]] wr.drew (Chosen n₀ G J Jx (pre ++ outs f M pre') (f M2) wr.drew) := fun v' hv' =>
          ih M2 (pre ++ outs f M pre') _ wr.drew v' hcl hsm hv' (show c ≤ wr.heap.size by omega) (show n₀ ≤ wr.heap.size by omega) hpall hjd
        have hsame : Same n₀ W wr.drew := Same.of_below hbel.drew
        have hRW : Rnd n₀ G W wr := Rnd.drop hr1 (hrb.trans hRr) (by omega)
        have hRD : Rnd n₀ G W wr.drew := ⟨hRW.below.drew, hRW.rest, fun b hg => hRW.grow b (hsd b hg)⟩
        have hvn : IfNG G n₀ wr.drew (.slice (if cp = 1 then some ⟨b, o, none⟩ else some ⟨b, o + 1, none⟩) k (cp - 1)) ns := by
          obtain ⟨A', c', e1, e2, e3⟩ := HV.out
          injection e1 with e4 e5 e6
          obtain ⟨b', o', e7, e8, e8g, e9⟩ := e3 (by simp)
          rw [← e4] at e7
          injection e7 with e7
          injection e7 with e10 e11
          subst e10 e11
          refine ⟨_, _, by rw [HK.out], by rw [← HK.out]; omega, fun h0 => ?_⟩
          rw [← HK.out] at h0
          rw [if_neg (by omega)]
          refine ⟨b, o + 1, rfl, Nat.lt_of_lt_of_le e8 hRD.below.size, hRD.none e8 e8g, fun j y hj => ?_⟩
          obtain ⟨vz, e12, e13⟩ := e9 (j + 1) y (by simpa using hj)
          exact ⟨vz, by rw [show o + 1 + j = o + (j + 1) by omega]; exact (cell_of_heap (hRD.rest _ e8 e8g) _).trans e12, e13.keep hsame (Nat.le_refl _)⟩
        obtain ⟨A2, hA2⟩ : ∃ A2 : Option Addr, (if cp = 1 then some ⟨b, o, none⟩ else some ⟨b, o + 1, none⟩) = A2 := ⟨_, rfl⟩
        rw [hA2] at hvn
        have hih := hih _ hvn
        have HIR := Lib.hid hIr
        have HRR := Lib.hid hRr
        have HNX := Lib.hid hnx
        have HLOW := Lib.hid hlow
        have HLEFT := Lib.hid hleft
        have HIH := Lib.hid hih
        have HSAME := Lib.hid hsame
        have HNEXT := Lib.hid hnext
        have HCAP := Lib.hid hcap
        have hk1 : (1 : Int) ≤ (k : Int) + 1 := by omega
        have hkc : (k : Int) + 1 ≤ (cp : Int) := by omega
        clear hRW hRD
        clear hIr hRr hnx hlow hleft hih hsame hvn hnext hpall hbel hjd hsd hcl hsm hst hM2 ih hall
        gi_wp2_with fail
        gi_cut [39] from 34 (fun s39 wx => ∃ r : Bool, s39 = .bool (!r) ∧ Hid (Rnd n₀ G wr.drew wx ∧ (r = true → J (pre ++ outs f M pre' ++ f M2) wx) ∧ (r = false → ∃ q, q <+: f M2 ∧ Jx (pre ++ outs f M pre' ++ q) wx)))
        case first =>
          gi_region_with (refine ⟨trivial, (fun h => by cases h), (CallsIn.inRound ll HIH.out).mono ?_⟩; rintro e W3 hch; obtain ⟨r, rfl, hr3, hyes, hno⟩ := hch.bool; have HR3 := Lib.hid hr3; have HYES := Lib.hid hyes; have HNO := Lib.hid hno; clear hch hr3 hyes hno)
          all_goals
            gi_wp2_with fail
            gi_meet
            case rel => exact ⟨r, rfl, HR3.out, HYES.out, HNO.out⟩
        case rest =>
          obtain ⟨r, rfl, hpost⟩ := hcut
          clear hld c35 c37 hA2
          obtain ⟨hr3, hyes, hno⟩ := hpost.out
          have hIr := HIR.out
          have hgd : ∀ k', W.heap.size ≤ k' → k' < W.heap.size + 4 → ¬ G wr.drew k' := fun k' h1 h2 hg => hIr.2.2.2.2 k' h1 h2 ((hJ.drew hIr.1 1).2 k' hg)
          have hgn : ¬ G wr.drew Wb.heap.size := fun hg => hJ.fresh jb (show c ≤ Wb.heap.size by omega) HLOW.out Wb.heap.size (Nat.le_refl _) ((hJ.drew hIr.1 1).2 _ hg)
          have hk3c := hr3.blok (hgd (W.heap.size + 1 + 1 + 1) (by omega) (by omega)) (show Blok wr.drew (W.heap.size + 1 + 1 + 1) 4 [.bool false] from hIr.2.2.2.1)
          have hknc := hr3.blok (hgd W.heap.size (by omega) (by omega)) (show Blok wr.drew W.heap.size 77 (cellsM M) from hIr.2.2.1.known)
          have hnxc := hr3.blok hgn (show Blok wr.drew Wb.heap.size 77 (cellsM M2) from HNX.out)
          have hcbc : ChB W.heap.size M (.slice (some ⟨b, o, none⟩) (k + 1) cp) l wc := (show ChB _ _ _ _ wr.drew from ⟨hIr.2.2.1.known, hIr.2.2.1.notes, hIr.2.2.1.yield⟩).rnd hr3 hgd
          have hgc : ∀ k', W.heap.size ≤ k' → k' < W.heap.size + 4 → ¬ G wc k' := fun k' h1 h2 => hr3.none (by have := HLOW.out.size; show k' < wr.heap.size; omega) (hgd k' h1 h2)
          have hrd : Rnd n₀ G wr wr.drew := ⟨(Below.refl _ _).drew, fun _ _ _ => rfl, fun b' hg => .inl ((hJ.drew hIr.1 1).2 b' hg)⟩
          have hRall : Rnd n₀ (AddB G (W.heap.size + 1 + 1 + 1)) Wb wc := HRR.out.trans ((hrd.trans hr3).add _)
          have c6 := hk3c.cell 0
          have f6 := hk3c.free 0
          simp at c6
          have HK3 := Lib.hid hk3c
          have HKN := Lib.hid hknc
          have HNXC := Lib.hid hnxc
          have HCB := Lib.hid hcbc
          have HGC := Lib.hid hgc
          have HRALL := Lib.hid hRall
          have HYES := Lib.hid hyes
          have HNO := Lib.hid hno
          clear hpost hr3 hyes hno hIr hgd hgn hk3c hknc hnxc hcbc hgc hrd hRall
          cases r
          · clear HYES
            gi_wp2_with fail
            obtain ⟨q, hq, hjx⟩ := HNO.out (by trivial)
            have hgr := HGC.out (W.heap.size + 1 + 1 + 1) (by omega) (by omega)
            obtain ⟨j4, s4⟩ := hJx.put hjx (k := W.heap.size + 1 + 1 + 1) (by omega) hgr 0 (.bool false)
            refine ⟨HRALL.out.touch (.inr rfl) (by omega) 0 _ (fun b' hg => ?_), ?_, fun hg => hgr (s4 _ hg), .inl ⟨rfl, outs f M pre' ++ q, ?_, ?_⟩⟩
            · rcases hg with hg | hg
              · exact .inl (s4 b' hg)
              · exact .inr hg
            · have := HK3.out.put 0 (.bool false)
              simpa using this
            · refine List.IsPrefix.trans ?_ HNEXT.out
              exact (List.prefix_append_right_inj _).2 hq
            · rw [← List.append_assoc]
              exact j4
          · clear HNO
            have hj5 := HYES.out rfl
            have HJ5 := Lib.hid hj5
            clear hj5 HYES
            have hq1 := run_ldB _ _ _ _ HNXC.out.range
            have hq2 := run_ldB _ _ _ _ HKN.out.range
            have hq3 := run_eqM wc M2 M
            gi_wp2_with fail
            · have he : eqOn 10 M2 M := by first | assumption | exact of_decide_eq_true (by assumption)
              refine ⟨HRALL.out, HK3.out, HGC.out _ (by omega) (by omega), .inr ⟨rfl, ?_⟩⟩
              rw [goWays_stop (f := f) HPRE.out nb HLEFT.out he, ← List.append_assoc]
              exact HJ5.out
            · have he : ¬ eqOn 10 M2 M := by first | assumption | exact of_decide_eq_false (by assumption)
              refine ⟨HRALL.out, ?_, nb.snoc_some HLEFT.out he, HCB.out, HK3.out, HGC.out⟩
              rw [outs_snoc_some HLEFT.out, ← List.append_assoc]
              exact HJ5.out
      | succ g =>
        have hq2 : q < 2 := by omega
        have hla : (lim wy q).a < 10 ∧ (lim wy q).b < 10 ∧ -10000 ≤ (lim wy q).y ∧ (lim wy q).y ≤ 10000 := by
          unfold lim
          split
          · exact ⟨hinn.1.1, hinn.1.2, by omega, by omega⟩
          · exact ⟨hinn.2.1, hinn.2.2, by omega, by omega⟩
        have q2 : ((q : Nat) : Int) < 2 := by omega
        have HRF : Hid (∀ w, Calls Try.prog 83 #[.agg (cellsM (stage M wy q)).toArray, .agg #[.int .i64 (lim wy q).a, .int .i64 (lim wy q).b, .int .i64 (lim wy q).y]] w fun e w' => e = .returned (.bool (refuses (stage M wy q) (lim wy q))) ∧ Below w.heap.size w w') :=
          Lib.hid fun w => refuses_any (stage M wy q) (lim wy q) hla.1 hla.2.1 (by have := hst.sm.lo hst.cl _ _ hla.2.1 hla.1; omega) (by have := hst.sm _ _ hla.2.1 hla.1; omega) (by omega) (by omega) w
        have HNA : Hid (∀ w, Calls Try.prog 84 #[.agg (cellsM (stage M wy q)).toArray, .agg #[.int .i64 (lim wy q).a, .int .i64 (lim wy q).b, .int .i64 (lim wy q).y]] w fun e w' => e = .returned (.agg (cellsM (cut (stage M wy q) (lim wy q))).toArray) ∧ Below w.heap.size w w') :=
          Lib.hid fun w => narrowed_any (stage M wy q) (lim wy q) hla.1 hla.2.1 (fun i j hi hj => ⟨by have := hst.sm.lo hst.cl i j hi hj; omega, by have := hst.sm i j hi hj; omega⟩) hla.2.2.1 hla.2.2.2 w
        have HST := Lib.hid hst
        have HLA := Lib.hid hla
        clear hla
        have hnl : refuses (stage M wy q) (lim wy q) = true → left M wy = none := by
          have h01 : q = 0 ∨ q = 1 := by omega
          rcases h01 with rfl | rfl
          · intro h
            have h' : refuses M wy.1 = true := h
            simp [left, h']
          · intro h
            have h' : refuses (cut M wy.1) wy.2 = true := h
            have h'' := HST.out.r1 (Nat.le_refl _)
            simp [left, h', h'']
        have HNL := Lib.hid hnl
        have hst1 : refuses (stage M wy q) (lim wy q) = false → ∀ w', Below Wb.heap.size Wb w' → Blok w' Wb.heap.size 77 (cellsM (cut (stage M wy q) (lim wy q))) → StI M wy Wb (q + 1) w' := by
          intro h w' hb' hn'
          refine ⟨hb', by rw [← stage_succ M wy q hq2]; exact hn', ?_, ?_, fun _ => ?_, fun h2 => ?_⟩
          · rw [← stage_succ M wy q hq2]
            exact cut_closed HST.out.cl HLA.out.1 HLA.out.2.1 h
          · rw [← stage_succ M wy q hq2]
            exact HST.out.sm.cut _
          · have h01 : q = 0 ∨ q = 1 := by omega
            rcases h01 with rfl | rfl
            · exact h
            · exact HST.out.r1 (Nat.le_refl _)
          · obtain rfl : q = 1 := by omega
            exact h
        have HS1 := Lib.hid hst1
        clear hnl hst1
        gi_wp2_with (first | rw [run_idxW _ _ _ hq2] | rw [run_ldB _ _ _ _ (World.rangeAt_alloc HST.out.nxt.range _)])
        refine ⟨trivial, (fun h => by cases h), (CallsIn.inRound ll (callsIn_wide.2 (HRF.out _))).mono ?_⟩
        rintro e w2 ⟨rfl, hb2⟩
        have hl2 := (HST.out.low.alloc HST.out.low.size (.cells #[.int .i64 (lim wy q).a, .int .i64 (lim wy q).b, .int .i64 (lim wy q).y] 128)).trans (hb2.mono (by simp; have := HST.out.low.size; omega))
        have hn2 := (HST.out.nxt.alloc (.cells #[.int .i64 (lim wy q).a, .int .i64 (lim wy q).b, .int .i64 (lim wy q).y] 128)).below hb2 (by simp; have := HST.out.nxt.size; omega)
        have hm2 := (Blok.new wr 128 [.int .i64 (lim wy q).a, .int .i64 (lim wy q).b, .int .i64 (lim wy q).y]).below hb2 (by simp)
        have m0 := hm2.cell 0
        have m1 := hm2.cell 1
        have m2 := hm2.cell 2
        simp at m0 m1 m2
        have HL2 := Lib.hid hl2
        have HN2 := Lib.hid hn2
        clear hb2 hl2 hn2 hm2
        cases hrf : refuses (stage M wy q) (lim wy q)
        · have HR := Lib.hid hrf
          clear hrf
          gi_wp2_with (rw [run_ldB _ _ _ _ HN2.out.range])
          refine ⟨trivial, (fun h => by cases h), (CallsIn.inRound ll (callsIn_wide.2 (HNA.out _))).mono ?_⟩
          rintro e w3 ⟨rfl, hb3⟩
          have hl3 := HL2.out.trans (hb3.mono (by have := HL2.out.size; omega))
          have hn3 := HN2.out.below hb3 HN2.out.size
          have HL3 := Lib.hid hl3
          have HN3 := Lib.hid hn3
          clear hb3 hl3 hn3 m0 m1 m2
          gi_wp2_with (rw [run_stB_at _ _ _ _ HN3.out (cells_len _)])
          gi_roundg g
          case measure => omega
          case rel => exact ⟨q + 1, by omega, by go_num, HS1.out HR.out _ (below_setRow HL3.out (Nat.le_refl _) _) (HN3.out.setRow _)⟩
        · have HR := Lib.hid hrf
          clear hrf
          have hl2 := HL2.out
          gi_wp2_with fail
          obtain ⟨⟨e1, e2, e3, e4, e5⟩, e6⟩ := HKI.out.rnd HI.out (show w1.heap.size ≤ Wb.heap.size by omega) (show n₀ ≤ Wb.heap.size by omega) hl2
          have hno := HNL.out HR.out
          exact ⟨e6, by rw [outs_snoc_none hno]; exact e1, e2.snoc_none hno, e3, e4, e5⟩
  case done =>
    rintro D W2 hD hgD hr2 ⟨j2, n2, cb2, k32, g2⟩ hK
    rw [← goWays_all _ n2] at j2
    have c3 := k32.cell 0
    have f3 := k32.free 0
    simp at c3
    have hg3 := g2 (W.heap.size + 1 + 1 + 1) (by omega) (by omega)
    obtain ⟨j3, s3⟩ := hJ.put j2 (k := W.heap.size + 1 + 1 + 1) (by omega) hg3 0 (.bool true)
    have hKD := (KeepsOthers.setCell W2 ⟨W.heap.size + 1 + 1 + 1, 0, none⟩ (.bool true)).same D _ hK rfl
    have hDk : D ≠ W.heap.size + 1 + 1 + 1 := fun e => by
      subst e
      rw [Blok, hK] at k32
      cases k32
    have k33 := k32.put 0 (.bool true)
    obtain ⟨j4, s4⟩ := hJ.step _ _ ((W2.setCell ⟨W.heap.size + 1 + 1 + 1, 0, none⟩ (.bool true)).putObj D (.deferred none)) j3 ⟨(Below.refl _ _).grown (grownBy_putObj' _ D _) (by have := hr2.below.size; simp [World.setCell]; omega) (fun k e => by cases e; omega), fun b' hg => World.putObj_heap_other (fun e => hgD (.inl (s3 _ (e ▸ hg))))⟩
    have k34 : Blok ((W2.setCell ⟨W.heap.size + 1 + 1 + 1, 0, none⟩ (.bool true)).putObj D (.deferred none)) (W.heap.size + 1 + 1 + 1) 4 [.bool true] := (World.putObj_heap_other (Ne.symm hDk)).trans k33
    have hr3 := hr1.drop hr2 (show W.heap.size ≤ W.heap.size + 1 + 1 + 1 by omega)
    have hr4 : Rnd n₀ G W ((W2.setCell ⟨W.heap.size + 1 + 1 + 1, 0, none⟩ (.bool true)).putObj D (.deferred none)) := by
      have h5 := hr3.put (k := W.heap.size + 1 + 1 + 1) (by omega) (by omega) 0 (.bool true) s3
      refine ⟨h5.below.grown (grownBy_putObj' _ D _) (by have := h5.below.size; omega) (fun k e => by cases e; omega), fun b' hb' hg => (World.putObj_heap_other (by omega)).trans (h5.rest b' hb' hg), fun b' hg => h5.grow b' (s4 b' hg)⟩
    have HJ4 := Lib.hid j4
    have HR4 := Lib.hid hr4
    have HK34 := Lib.hid k34
    have HKD := Lib.hid hKD
    clear j2 n2 cb2 k32 g2 hg3 j3 s3 hKD hDk k33 j4 s4 k34 hr3 hr4 hK
    gi_wp2_with fail
    rw [Exit.noGoto_ret]
    refine ⟨by simp, .inl ⟨_, _, rfl, run_takeDeferred HKD.out, ?_⟩⟩
    refine ⟨.bool true, ?_, ?_⟩
    · have := HK34.out.cell 0
      simp at this
      simp [results, Try.results74, go_sem, this]
    · first | exact ⟨HR4.out, .inl ⟨rfl, HJ4.out⟩⟩ | (rw [HT.out]; exact ⟨HR4.out, .inl ⟨rfl, HJ4.out⟩⟩)
  case stop =>
    rintro D cd pre' W2 hD hgD hpre hr2 ⟨k32, hg3, hcd⟩ hK
    have hDk : D ≠ W.heap.size + 1 + 1 + 1 := fun e => by
      subst e
      rw [Blok, hK] at k32
      cases k32
    have hr3 := hr1.drop hr2 (show W.heap.size ≤ W.heap.size + 1 + 1 + 1 by omega)
    have hDW : W.heap.size ≤ D := by omega
    have hDlt := (Array.getElem?_eq_some_iff.1 hK).1
    rcases hcd with ⟨rfl, q, hq, j2⟩ | ⟨rfl, j2⟩
    · obtain ⟨j4, s4⟩ := hJx.step _ _ (W2.putObj D (.deferred none)) j2 ⟨(Below.refl _ _).grown (grownBy_putObj' _ D _) (by omega) (fun k e => by cases e; omega), fun b' hg => World.putObj_heap_other (fun e => hgD (.inl (e ▸ hg)))⟩
      have k34 : Blok (W2.putObj D (.deferred none)) (W.heap.size + 1 + 1 + 1) 4 [.bool false] := (World.putObj_heap_other (Ne.symm hDk)).trans k32
      have hr4 : Rnd n₀ G W (W2.putObj D (.deferred none)) := by
        refine ⟨hr3.below.grown (grownBy_putObj' _ D _) (by have := hr3.below.size; omega) (fun k e => by cases e; omega), fun b' hb' hg => (World.putObj_heap_other (by omega)).trans (hr3.rest b' hb' hg), fun b' hg => hr3.grow b' (s4 b' hg)⟩
      have HJ4 := Lib.hid j4
      have HR4 := Lib.hid hr4
      have HK34 := Lib.hid k34
      have HKD := Lib.hid hK
      have HQ := Lib.hid hq
      clear j2 k32 hg3 hDk j4 s4 k34 hr3 hr4 hK hq
      gi_wp2_with fail
      rw [Exit.noGoto_ret]
      refine ⟨by simp, .inl ⟨_, _, rfl, run_takeDeferred HKD.out, ?_⟩⟩
      refine ⟨.bool false, ?_, ?_⟩
      · have := HK34.out.cell 0
        simp at this
        simp [results, Try.results74, go_sem, this]
      · exact ⟨HR4.out, .inr ⟨rfl, q, HQ.out, HJ4.out⟩⟩
    · have c3 := k32.cell 0
      have f3 := k32.free 0
      simp at c3
      obtain ⟨j3, s3⟩ := hJ.put j2 (k := W.heap.size + 1 + 1 + 1) (by omega) hg3 0 (.bool true)
      have hKD := (KeepsOthers.setCell W2 ⟨W.heap.size + 1 + 1 + 1, 0, none⟩ (.bool true)).same D _ hK rfl
      have k33 := k32.put 0 (.bool true)
      obtain ⟨j4, s4⟩ := hJ.step _ _ ((W2.setCell ⟨W.heap.size + 1 + 1 + 1, 0, none⟩ (.bool true)).putObj D (.deferred none)) j3 ⟨(Below.refl _ _).grown (grownBy_putObj' _ D _) (by simp [World.setCell]; omega) (fun k e => by cases e; omega), fun b' hg => World.putObj_heap_other (fun e => hgD (.inl (s3 _ (e ▸ hg))))⟩
      have k34 : Blok ((W2.setCell ⟨W.heap.size + 1 + 1 + 1, 0, none⟩ (.bool true)).putObj D (.deferred none)) (W.heap.size + 1 + 1 + 1) 4 [.bool true] := (World.putObj_heap_other (Ne.symm hDk)).trans k33
      have hr4 : Rnd n₀ G W ((W2.setCell ⟨W.heap.size + 1 + 1 + 1, 0, none⟩ (.bool true)).putObj D (.deferred none)) := by
        have h5 := hr3.put (k := W.heap.size + 1 + 1 + 1) (by omega) (by omega) 0 (.bool true) s3
        refine ⟨h5.below.grown (grownBy_putObj' _ D _) (by have := h5.below.size; omega) (fun k e => by cases e; omega), fun b' hb' hg => (World.putObj_heap_other (by omega)).trans (h5.rest b' hb' hg), fun b' hg => h5.grow b' (s4 b' hg)⟩
      have HJ4 := Lib.hid j4
      have HR4 := Lib.hid hr4
      have HK34 := Lib.hid k34
      have HKD := Lib.hid hKD
      clear j2 k32 hg3 j3 s3 hKD hDk k33 j4 s4 k34 hr3 hr4 hK
      gi_wp2_with fail
      rw [Exit.noGoto_ret]
      refine ⟨by simp, .inl ⟨_, _, rfl, run_takeDeferred HKD.out, ?_⟩⟩
      refine ⟨.bool true, ?_, ?_⟩
      · have := HK34.out.cell 0
        simp at this
        simp [results, Try.results74, go_sem, this]
      · first | exact ⟨HR4.out, .inl ⟨rfl, HJ4.out⟩⟩ | (rw [HT.out]; exact ⟨HR4.out, .inl ⟨rfl, HJ4.out⟩⟩)
theorem choose_any (d : Dat) (hd : d.Ok) (m n₀ l : Nat) (G : World → Nat → Prop) (J Jx : List Mat → World → Prop) (all : List Mat) (c : Nat) (hJ : Keeps c G J) (hJx : Keeps c G Jx) (hY : Takes m n₀ l G J Jx all) :
    ∀ (ns : List Nt), (∀ x ∈ ns, x.Ok d) → ∀ (M : Mat) (pre : List Mat) (n : Nat) (W : World) (v : Value), Closed 10 M → Small M → IfNG G n₀ W v ns → c ≤ W.heap.size → n₀ ≤ W.heap.size → pre ++ chooseP 10 (ns.map Nt.ways) M <+: all → J pre W →
      CallsIn Fence.wide n Try.prog 74 #[.agg (cellsM M).toArray, v, .func (.yield l) #[] #[]] W (Chosen n₀ G J Jx pre (chooseP 10 (ns.map Nt.ways) M) W)
  | [], _, M, pre, n, W, v, _, _, hv, hc, hn, hall, h0 => by
    obtain ⟨A, cp, rfl, -, -⟩ := hv
    exact choose_nil m n₀ l G J Jx all hY M pre n c W A cp hJ hJx hc hn hall h0
  | x :: ns, hx, M, pre, n, W, v, hM, hS, hv, hc, hn, hall, h0 =>
    choose_cons d hd x (hx x (List.mem_cons_self ..)) ns n₀ l G J Jx all c hJ hJx
      (fun M pre n W v h1 h2 h3 h4 h5 h6 h7 => choose_any d hd m n₀ l G J Jx all c hJ hJx hY ns (fun y hy => hx y (List.mem_cons_of_mem _ hy)) M pre n W v h1 h2 h3 h4 h5 h6 h7)
      M pre n W v hM hS hv hc hn hall h0
end Go.Proofs.Ytcbdcdpoackplaa
