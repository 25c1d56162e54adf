/- The count of draws never falls. -/
import Derived.Test.YtcbdcdpoackplaaMa
namespace Go

theorem viewStore_drawn (p : Program) (w : World) (at_ : Addr) (u : TypeId) (k : Addr) (v : Value) (atomic : Bool) (r : World × List Addr) (h : w.viewStore p at_ u k v atomic = .ok r) : r.1.drawn = w.drawn := by
  unfold World.viewStore at h
  simp only [bind, Except.bind, pure, Except.pure] at h
  repeat' split at h
  all_goals first
    | cases h; done
    | (injection h with h; subst h; rfl)
theorem farStore_drawn (p : Program) (w : World) (a : Addr) (v : Value) (atomic : Bool) (w' : World) (l : List Addr) (h : w.farStore p a v atomic = .ok (w', l)) : w'.drawn = w.drawn := by
  unfold World.farStore at h
  split at h
  · split at h
    · rename_i r hr
      injection h with h
      subst h
      exact viewStore_drawn p w _ _ _ _ _ _ hr
    · cases h
  · cases h
theorem ask_drawn {α : Type} : ∀ (s : Ask α) (w : World), w.drawn ≤ (w.ask s).2.drawn
  | .done _, w => Nat.le_refl _
  | .ask what range k, w => by
    simp only [World.ask]
    split
    · exact ask_drawn (k 0) w
    · exact Nat.le_trans (Nat.le_succ _) (ask_drawn (k _) { w with drawn := w.drawn + 1 })
theorem sys_drawn (w : World) (c : Sys) : w.drawn ≤ (w.sys c).2.drawn := by
  unfold World.sys
  have h := ask_drawn (Kernel.perform c w.os) w
  rcases hx : w.ask (Kernel.perform c w.os) with ⟨⟨r, os⟩, w2⟩
  rw [hx] at h
  cases r <;> first
    | exact Nat.le_refl _
    | exact h
theorem run_drawn {α : Type} (P : Program) : ∀ (s : Sem α) (w w' : World) (a : α), s.run P w = .ok a w' → w.drawn ≤ w'.drawn
  | .pure a, w, w', b, h => by
    simp only [Sem.run] at h
    injection h with h1 h2
    subst h2
    exact Nat.le_refl _
  | .load m a k, w, w', b, h => by
    simp only [Sem.run] at h
    split at h
    · exact run_drawn P (k _) w w' b h
    · split at h
      · exact run_drawn P (k _) w w' b h
      · cases h
  | .store m a v k, w, w', b, h => by
    cases v <;> simp only [Sem.run] at h <;> first
      | (cases h; done)
      | (split at h
         · split at h
           · cases h
           · exact run_drawn P k (w.setCell a _) w' b h
         · split at h
           · rename_i w2 l hw
             have := farStore_drawn P w a _ _ w2 l hw
             rw [← this]
             exact run_drawn P k w2 w' b h
           · cases h)
  | .new o k, w, w', b, h => run_drawn P (k w.heap.size) { w with heap := w.heap.push o } w' b (by simpa only [Sem.run] using h)
  | .shape r k, w, w', b, h => run_drawn P (k _) w w' b (by simpa only [Sem.run] using h)
  | .freeze a n k, w, w', b, h => by
    simp only [Sem.run] at h
    have h1 := run_drawn P k (w.freeze a n) w' b h
    have h2 : (w.freeze a n).drawn = w.drawn := by
      unfold World.freeze
      first
        | rfl
        | (split <;> rfl)
        | (split <;> (try split) <;> rfl)
    rwa [h2] at h1
  | .frozen a k, w, w', b, h => run_drawn P (k _) w w' b (by simpa only [Sem.run] using h)
  | .getObj r k, w, w', b, h => by
    simp only [Sem.run] at h
    split at h
    · cases h
    · exact run_drawn P (k _) w w' b h
    · cases h
  | .setObj r o k, w, w', b, h => by
    simp only [Sem.run] at h
    split at h
    · cases h
    · exact run_drawn P k { w with heap := w.heap.setIfInBounds r o } w' b h
    · cases h
  | .choose q k, w, w', b, h => by
    simp only [Sem.run] at h
    split at h
    · exact run_drawn P (k 0) w w' b h
    · exact Nat.le_trans (Nat.le_succ _) (run_drawn P (k _) { w with drawn := w.drawn + 1 } w' b h)
  | .sys c k, w, w', b, h => by
    simp only [Sem.run] at h
    exact Nat.le_trans (sys_drawn w c) (run_drawn P (k _) _ w' b h)
  | .program k, w, w', b, h => run_drawn P (k P) w w' b (by simpa only [Sem.run] using h)
  | .mark m k, w, w', b, h => run_drawn P k w w' b (by simpa only [Sem.run] using h)
  | .halt h', w, w', b, h => by
    simp only [Sem.run] at h
    cases h
open Go.RowKit in
/-- Behind an append the count of draws has not fallen. -/
theorem wp_append_drawn {P : Program} {o : Oper} {a : Act} {w : World} {K : Act → World → Prop} {Q : Exit → Act → World → Prop} (s x : Operand) (t : TypeId)
    (ho : o.op = .call { callee := .builtin .append, args := #[s, x], argTypes := #[t, t] })
    (h : o.wp P a w (fun a' w' => w.drawn ≤ w'.drawn → K a' w') Q) : o.wp P a w K Q := by
  unfold Oper.wp execOp at h ⊢
  simp only [ho, resolve, invoke, builtin, Sem.run_bind, Sem.run_pure, Result.andThen_ok, List.map_toArray, List.map_cons, List.map_nil] at h ⊢
  cases hr : (Builtin.append_ #[t, t] o.type #[a.eval s, a.eval x]).run P w with
  | ok v w' =>
    rw [hr] at h
    exact h (run_drawn P _ w w' v hr)
  | halt e w' =>
    rw [hr] at h
    cases e <;> exact h
theorem wpList_append_drawn {P : Program} {ops : Array Oper} {rest : List Oper} {o : Oper} {a : Act} {w : World} {Q : Exit → Act → World → Prop} (hgd : o.guard = none) (s x : Operand) (t : TypeId)
    (ho : o.op = .call { callee := .builtin .append, args := #[s, x], argTypes := #[t, t] })
    (h : ∀ K : Act → World → Prop, (∀ a' w', wpList P ops Q rest a' w' → K a' w') → o.wp P a w (fun a' w' => w.drawn ≤ w'.drawn → K a' w') Q) : wpList P ops Q (o :: rest) a w :=
  wpList_plain hgd fun K hK => wp_append_drawn s x t ho (h K hK)
end Go
