/-
  The same operation in two worlds that part in blocks that nobody may touch; on two tapes that give the same answers.
-/
import Derived.Test.YtadngncbbbbapaaLock
namespace Go.Proofs.Ytadngncbbbbapaa.Lift
open Go.Conc
set_option linter.unusedVariables false
set_option linter.unusedSectionVars false
set_option linter.unusedSimpArgs false
variable {P : Program} {S : Nat → Prop} {v w : World}

def Keep (v v' : World) : Prop := v'.tape = v.tape ∧ v.drawn ≤ v'.drawn ∧ v.heap.size ≤ v'.heap.size
theorem Keep.refl (v : World) : Keep v v := ⟨rfl, Nat.le_refl _, Nat.le_refl _⟩
theorem Keep.trans {a b c : World} (h : Keep a b) (k : Keep b c) : Keep a c := ⟨k.1.trans h.1, Nat.le_trans h.2.1 k.2.1, Nat.le_trans h.2.2 k.2.2⟩

theorem farLoad_bad {p : Program} {a : Addr} {b : Bool} {h : Halt} (hl : v.farLoad p a b = .error h) : Bad h := by
  unfold World.farLoad World.noCell at hl
  repeat' split at hl
  all_goals (cases hl <;> trivial)
theorem farStore_bad {p : Program} {a : Addr} {x : Value} {b : Bool} {h : Halt} (hl : v.farStore p a x b = .error h) : Bad h := by
  unfold World.farStore World.noCell at hl
  repeat' split at hl
  all_goals (cases hl <;> trivial)
theorem farLoad_sim {p : Program} {a : Addr} {b : Bool} {x : Value} {l : List Addr} (h : Sim S v w) (hv : v.farLoad p a b = .ok (x, l)) : w.farLoad p a b = .ok (x, l) ∧ w.cell? a = none ∧ ∀ y ∈ l, ¬ S y.block ∧ y.block < v.heap.size := by
  unfold World.farLoad at hv
  split at hv
  · rename_i at_ u ho
    have hn : ¬ S a.block := fun hs => by obtain ⟨t, c, h1, _⟩ := h.gone _ hs; rw [h1] at ho; cases ho
    have ho' : w.heap[a.block]? = some (.view at_ u) := by rw [← h.same _ hn]; exact ho
    split at hv
    · rename_i r hr
      cases hv
      obtain ⟨h1, h2⟩ := viewLoad_sim h hr
      exact ⟨by simp only [World.farLoad, ho', h1], by simp only [World.cell?, ho'], h2⟩
    · cases hv
  · cases hv
theorem farStore_sim {p : Program} {a : Addr} {b : Bool} {x : Value} {v' : World} {l : List Addr} (h : Sim S v w) (hv : v.farStore p a x b = .ok (v', l)) :
    ∃ w', w.farStore p a x b = .ok (w', l) ∧ w.cell? a = none ∧ Sim S v' w' ∧ (∀ y ∈ l, ¬ S y.block ∧ y.block < v.heap.size) ∧ v'.heap.size = v.heap.size ∧ v'.tape = v.tape ∧ v'.drawn = v.drawn := by
  unfold World.farStore at hv
  split at hv
  · rename_i at_ u ho
    have hn : ¬ S a.block := fun hs => by obtain ⟨t, c, h1, _⟩ := h.gone _ hs; rw [h1] at ho; cases ho
    have ho' : w.heap[a.block]? = some (.view at_ u) := by rw [← h.same _ hn]; exact ho
    split at hv
    · rename_i r hr
      cases hv
      obtain ⟨w', h1, h2⟩ := viewStore_sim h hr
      exact ⟨w', by simp only [World.farStore, ho', h1], by simp only [World.cell?, ho'], h2⟩
    · cases hv
  · cases hv

theorem dead_run {α : Type} {e : Sem α} (hd : Dead P e) : ∀ (v : World) (es : Array Event), ∃ h v' es', e.runT P v es = (.halt h v', es') ∧ Bad h := by
  revert hd
  induction e with
  | pure a => exact fun h => h.elim
  | load m a k ih =>
    intro hd v es
    simp only [Sem.runT]
    split
    · exact ih _ (hd _) _ _
    · split
      · exact ih _ (hd _) _ _
      · rename_i he; exact ⟨_, _, _, rfl, farLoad_bad he⟩
  | store m a x k ih =>
    intro hd v es
    cases x <;> simp only [Sem.runT] <;> first
      | exact ⟨_, _, _, rfl, trivial⟩
      | (split
         · split
           · exact ⟨_, _, _, rfl, trivial⟩
           · exact ih hd _ _
         · split
           · exact ih hd _ _
           · rename_i he; exact ⟨_, _, _, rfl, farStore_bad he⟩)
  | new o k ih => exact fun hd v es => ih _ (hd _) _ _
  | shape r k ih => exact fun hd v es => ih _ (hd _) _ _
  | freeze a n k ih => exact fun hd v es => ih hd _ _
  | frozen a k ih => exact fun hd v es => ih _ (hd _) _ _
  | getObj r k ih =>
    intro hd v es
    simp only [Sem.runT]
    split
    · exact ⟨_, _, _, rfl, trivial⟩
    · exact ih _ (hd _) _ _
    · exact ⟨_, _, _, rfl, trivial⟩
  | setObj r o k ih =>
    intro hd v es
    simp only [Sem.runT]
    split
    · exact ⟨_, _, _, rfl, trivial⟩
    · exact ih hd _ _
    · exact ⟨_, _, _, rfl, trivial⟩
  | choose q k ih =>
    intro hd v es
    simp only [Sem.runT]
    split
    · exact ih _ (hd _) _ _
    · exact ih _ (hd _) _ _
  | sys c k ih => exact fun h => h.elim
  | program k ih => exact fun hd v es => ih P hd _ _
  | mark m k ih => exact fun hd v es => ih hd _ _
  | halt x => exact fun hd v es => ⟨_, _, _, rfl, hd⟩

/-- What ends well in the one world does the same in the other. -/
def Locked {α : Type} (S : Nat → Prop) (φ : α → Prop) (v : World) (es : Array Event) (rv rw : Result α × Array Event) : Prop :=
  match rv with
  | (.ok a v', es') => φ a ∧ ∃ w', rw = (.ok a w', es') ∧ Sim S v' w' ∧ Keep v v' ∧ ∀ x ∈ es', x ∈ es ∨ EvO S v'.heap.size x
  | (.halt h v', es') => Bad h ∨ ((∃ pv, h = .panic pv) ∧ ∃ w', rw = (.halt h w', es') ∧ Sim S v' w' ∧ Keep v v' ∧ ∀ x ∈ es', x ∈ es ∨ EvO S v'.heap.size x)
theorem Locked.from {α : Type} {φ : α → Prop} {v v₁ : World} {es es₁ : Array Event} {rv rw : Result α × Array Event} (h : Locked S φ v₁ es₁ rv rw) (hk : Keep v v₁) (he : ∀ x ∈ es₁, x ∈ es ∨ EvO S v₁.heap.size x) : Locked S φ v es rv rw := by
  have fix : ∀ {v' : World} {es' : Array Event}, Keep v₁ v' → (∀ x ∈ es', x ∈ es₁ ∨ EvO S v'.heap.size x) → ∀ x ∈ es', x ∈ es ∨ EvO S v'.heap.size x := fun hk' hx x hm =>
    (hx x hm).elim (fun h1 => (he x h1).imp id fun h2 => h2.mono hk'.2.2) .inr
  obtain ⟨r, es'⟩ := rv
  cases r with
  | ok a v' =>
    obtain ⟨h1, w', h2, h3, h4, h5⟩ := h
    exact ⟨h1, w', h2, h3, hk.trans h4, fix h4 h5⟩
  | halt x v' =>
    rcases h with h | ⟨h1, w', h2, h3, h4, h5⟩
    · exact .inl h
    · exact .inr ⟨h1, w', h2, h3, hk.trans h4, fix h4 h5⟩
theorem ev_cell {a : Addr} {b s : Bool} {n : Nat} (h1 : ¬ S a.block) (h2 : a.block < n) : EvO S n ⟨.cell a, b, s⟩ := by
  have e : MemAct.ofEvent ⟨.cell a, b, s⟩ = .access ⟨.cell a, b, s⟩ := by cases b <;> cases s <;> rfl
  refine ⟨fun y hy => ?_, by simp, by simp, by rw [e]; exact h2⟩
  rw [e] at hy
  simp only [MemAct.touch?, Option.some.injEq] at hy
  subst hy
  rintro ⟨a', ha, hs⟩
  cases ha
  exact h1 hs
theorem ev_obj {r : Nat} {b s : Bool} {n : Nat} (h2 : r < n) : EvO S n ⟨.obj r, b, s⟩ := by
  refine ⟨fun y hy => ?_, by simp, by simp, by cases b <;> cases s <;> exact h2⟩
  rintro ⟨a', ha, hs⟩
  cases b <;> cases s <;> simp [MemAct.ofEvent, MemAct.touch?] at hy <;> (subst hy; cases ha)
theorem ev_mark {m : Mark} {n : Nat} (h : match m with | .noRoom | .extern _ => True | _ => False) : EvO S n ⟨.mark m, false, true⟩ := by
  cases m <;> first | exact h.elim | exact ⟨fun y hy => by simp [MemAct.ofEvent, MemAct.touch?] at hy, by simp, by simp, trivial⟩

set_option maxHeartbeats 1000000 in
theorem lock {α : Type} {φ : α → Prop} {e : Sem α} (ht : Tame P φ e) : ∀ (v w : World) (es : Array Event), Sim S v w → Locked S φ v es (e.runT P v es) (e.runT P w es) := by
  have push : ∀ {es : Array Event} {ev : Event} {n : Nat}, EvO S n ev → ∀ x ∈ es.push ev, x ∈ es ∨ EvO S n x := fun h x hx => (Array.mem_push.1 hx).imp id fun e => by subst e; exact h
  have many : ∀ {es : Array Event} {l : List Addr} {b s : Bool} {n : Nat}, (∀ y ∈ l, ¬ S y.block ∧ y.block < n) → ∀ x ∈ es ++ l.toArray.map (fun a => (⟨.cell a, b, s⟩ : Event)), x ∈ es ∨ EvO S n x := fun h x hx =>
    (Array.mem_append.1 hx).imp id fun hm => by
      obtain ⟨a, ha, rfl⟩ := Array.mem_map.1 hm
      have := h a (by simpa using ha)
      exact ev_cell this.1 this.2
  revert ht
  induction e with
  | pure a => exact fun ht v w es h => ⟨ht, w, rfl, h, Keep.refl v, fun x hx => .inl hx⟩
  | load m a k ih =>
    intro ht v w es h
    simp only [Sem.runT]
    cases hc : v.cell? a with
    | some x =>
      obtain ⟨h1, h2, h3⟩ := h.cell hc
      simp only [h2]
      exact (ih x (ht x) v w _ h).from (Keep.refl v) (push (ev_cell h1 h3))
    | none =>
      cases hf : v.farLoad P a (m == .atomic) with
      | error x => exact .inl (farLoad_bad hf)
      | ok r =>
        obtain ⟨x, l⟩ := r
        obtain ⟨h1, h2, h3⟩ := farLoad_sim h hf
        simp only [h1, h2]
        exact (ih x (ht x) v w _ h).from (Keep.refl v) (many h3)
  | store m a x k ih =>
    intro ht v w es h
    cases hx : x with
    | agg c => exact .inl trivial
    | tuple c => exact .inl trivial
    | _ =>
      simp only [Sem.runT]
      cases hc : v.cell? a with
      | some y =>
        obtain ⟨h1, h2, h3⟩ := h.cell hc
        simp only [h2, ← h.frozen a]
        split
        · exact .inl trivial
        · exact (ih ht _ _ _ (h.setAt h1 _)).from ⟨rfl, Nat.le_refl _, by simp [World.setCell]⟩ (push (ev_cell h1 (by simpa [World.setCell] using h3)))
      | none =>
        simp only
        split
        · rename_i v' l hf
          obtain ⟨w', h1, h2, h3, h4, h5, h6, h7⟩ := farStore_sim h hf
          simp only [h1, h2]
          exact (ih ht _ _ _ h3).from ⟨h6, by omega, by omega⟩ (many (by rw [h5]; exact h4))
        · rename_i he; exact .inl (farStore_bad he)
  | new o k ih =>
    intro ht v w es h
    simp only [Sem.runT, ← h.size]
    exact (ih _ (ht _) _ _ _ (h.push o)).from ⟨rfl, Nat.le_refl _, by simp⟩ fun x hx => .inl hx
  | shape r k ih =>
    intro ht v w es h
    by_cases hs : S r
    · obtain ⟨t, c, h1, h2⟩ := h.gone _ hs
      have e1 : v.shape? r = some (t, 0) := by simp [World.shape?, h1]
      have e2 : w.shape? r = some (t, c.size) := by simp [World.shape?, h2]
      simp only [Sem.runT, e1, e2]
      rcases ht.2 t c.size with hd | he
      · obtain ⟨x, v', es', hr, hb⟩ := dead_run hd v es
        rw [hr]; exact .inl hb
      · rw [← he]
        exact ih _ (ht.1 _) _ _ _ h
    · have e1 : v.shape? r = w.shape? r := by simp only [World.shape?, h.same _ hs]
      simp only [Sem.runT, ← e1]
      exact ih _ (ht.1 _) _ _ _ h
  | freeze a n k ih => exact fun ht => ht.elim
  | frozen a k ih =>
    intro ht v w es h
    simp only [Sem.runT, ← h.frozen a]
    exact ih _ (ht _) _ _ _ h
  | getObj r k ih =>
    intro ht v w es h
    by_cases hs : S r
    · obtain ⟨t, c, h1, h2⟩ := h.gone _ hs
      simp only [Sem.runT, h1]
      exact .inl trivial
    · simp only [Sem.runT, ← h.same _ hs]
      cases ho : v.heap[r]? with
      | none => exact .inl trivial
      | some o =>
        have hl := (Array.getElem?_eq_some_iff.1 ho).1
        cases o with
        | cells c t f => exact .inl trivial
        | _ => exact (ih _ (ht _) _ _ _ h).from (Keep.refl v) (push (ev_obj hl))
  | setObj r o k ih =>
    intro ht v w es h
    by_cases hs : S r
    · obtain ⟨t, c, h1, h2⟩ := h.gone _ hs
      simp only [Sem.runT, h1]
      exact .inl trivial
    · simp only [Sem.runT, ← h.same _ hs]
      cases ho : v.heap[r]? with
      | none => exact .inl trivial
      | some x =>
        have hl := (Array.getElem?_eq_some_iff.1 ho).1
        cases x with
        | cells c t f => exact .inl trivial
        | _ => exact (ih ht _ _ _ (h.putAt hs o)).from ⟨rfl, Nat.le_refl _, by simp⟩ (push (ev_obj (by simpa using hl)))
  | choose q k ih =>
    intro ht v w es h
    have e1 : q.cut (w.tape w.drawn q) = q.cut (v.tape v.drawn q) := by rw [h.tape, h.drawn]
    simp only [Sem.runT]
    rw [e1]
    split
    · exact ih _ (ht _) _ _ _ h
    · exact (ih _ (ht _) _ _ _ h.drew).from (v := v) ⟨rfl, Nat.le_succ _, Nat.le_refl _⟩ fun x hx => .inl hx
  | sys c k ih => exact fun ht => ht.elim
  | program k ih => exact fun ht v w es h => ih P ht v w es h
  | mark m k ih => exact fun ht v w es h => (ih ht.2 v w _ h).from (Keep.refl v) (push (ev_mark ht.1))
  | halt x =>
    intro ht v w es h
    cases x <;> first | exact ht.elim | exact .inl trivial | exact .inr ⟨⟨_, rfl⟩, w, rfl, h, Keep.refl v, fun x hx => .inl hx⟩
end Go.Proofs.Ytadngncbbbbapaa.Lift
