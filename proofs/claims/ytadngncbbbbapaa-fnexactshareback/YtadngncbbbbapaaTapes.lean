/-
  An operation takes of the tape so many answers and looks at nothing else of it.
-/
import Derived.Test.YtadngncbbbbapaaLockb
namespace Go.Proofs.Ytadngncbbbbapaa.Lift
open Go.Conc
set_option linter.unusedVariables false
set_option linter.unusedSectionVars false
set_option linter.unusedSimpArgs false
variable {P : Program}

def wOf {α : Type} : Result α → World
  | .ok _ w | .halt _ w => w
def reR {α : Type} (τ : Nat → Question → Nat) (d : Nat) : Result α → Result α
  | .ok a w => .ok a (re w τ d)
  | .halt h w => .halt h (re w τ d)
theorem seen_re (p : Program) (v : World) (τ : Nat → Question → Nat) (d : Nat) (a k : Addr) (u : TypeId) (b : Bool) : (re v τ d).seen p a u k b = v.seen p a u k b := rfl
theorem farLoad_re (p : Program) (v : World) (τ : Nat → Question → Nat) (d : Nat) (a : Addr) (b : Bool) : (re v τ d).farLoad p a b = v.farLoad p a b := rfl
theorem viewStore_re (p : Program) (v : World) (τ : Nat → Question → Nat) (d : Nat) (a k : Addr) (u : TypeId) (x : Value) (b : Bool) :
    (re v τ d).viewStore p a u k x b = (v.viewStore p a u k x b).map fun r => (re r.1 τ d, r.2) := by
  unfold World.viewStore
  rw [seen_re]
  simp only [bind, Except.bind, pure, Except.pure, throw, throwThe, MonadExceptOf.throw]
  repeat' (first | rfl | split)
theorem farStore_re (p : Program) (v : World) (τ : Nat → Question → Nat) (d : Nat) (a : Addr) (x : Value) (b : Bool) :
    (re v τ d).farStore p a x b = (v.farStore p a x b).map fun r => (re r.1 τ d, r.2) := by
  unfold World.farStore
  simp only [re_heap]
  split
  · rw [viewStore_re]
    cases v.viewStore p _ _ a x b <;> rfl
  · rfl
theorem viewStore_tape {p : Program} {v v' : World} {a k : Addr} {u : TypeId} {x : Value} {b : Bool} {l : List Addr} (h : v.viewStore p a u k x b = .ok (v', l)) : v'.tape = v.tape ∧ v'.drawn = v.drawn := by
  unfold World.viewStore at h
  simp only [bind, Except.bind, pure, Except.pure, throw, throwThe, MonadExceptOf.throw] at h
  repeat' (first | (cases h; done) | split at h)
  simp only [Except.ok.injEq, Prod.mk.injEq] at h
  rw [← h.1]; exact ⟨rfl, rfl⟩
theorem farStore_tape {p : Program} {v v' : World} {a : Addr} {x : Value} {b : Bool} {l : List Addr} (h : v.farStore p a x b = .ok (v', l)) : v'.tape = v.tape ∧ v'.drawn = v.drawn := by
  unfold World.farStore at h
  split at h
  · split at h
    · rename_i hr; cases h; exact viewStore_tape hr
    · cases h
  · cases h

def one : Value → Bool
  | .agg _ | .tuple _ => false
  | _ => true
theorem runT_store {α : Type} {m : Mode} {a : Addr} {x : Value} {k : Sem α} {v : World} {es : Array Event} (hx : one x = true) : Sem.runT P (.store m a x k) v es =
    match v.cell? a with
    | some _ => if v.frozen? a then (.halt (.unsupported (.unsafePointer "a write to bytes that a string shares")) v, es) else k.runT P (v.setCell a x) (es.push ⟨.cell a, true, m == .atomic⟩)
    | none => match v.farStore P a x (m == .atomic) with
      | .ok (w, touched) => k.runT P w (es ++ touched.toArray.map (⟨.cell ·, true, m == .atomic⟩))
      | .error h => (.halt h v, es) := by
  cases x <;> first | rfl | cases hx

/-- So many answers. -/
def Window {α : Type} (v : World) (r : Result α × Array Event) (run : World → Result α × Array Event) : Prop :=
  ∃ m, (wOf r.1).tape = v.tape ∧ (wOf r.1).drawn = v.drawn + m ∧ ∀ τ d, (∀ i, i < m → τ (d + i) = v.tape (v.drawn + i)) → run (re v τ d) = (reR τ (d + m) r.1, r.2)

theorem tapes {α : Type} {φ : α → Prop} {e : Sem α} (ht : Tame P φ e) : ∀ (v : World) (es : Array Event), Window v (e.runT P v es) (fun u => e.runT P u es) := by
  have stand : ∀ {v : World} {r : Result α × Array Event} {run : World → Result α × Array Event}, (wOf r.1).tape = v.tape → (wOf r.1).drawn = v.drawn → (∀ τ d, run (re v τ d) = (reR τ d r.1, r.2)) → Window v r run := fun h1 h2 h3 =>
    ⟨0, h1, by simpa using h2, fun τ d _ => by simpa using h3 τ d⟩
  have on : ∀ {v v₁ : World} {r : Result α × Array Event} {run run₁ : World → Result α × Array Event}, v₁.tape = v.tape → v₁.drawn = v.drawn → Window v₁ r run₁ → (∀ τ d, run (re v τ d) = run₁ (re v₁ τ d)) → Window v r run := fun h1 h2 ⟨m, a1, a2, a3⟩ h3 =>
    ⟨m, a1.trans h1, by rw [a2, h2], fun τ d hw => by rw [h3]; exact a3 τ d (by rw [h1, h2]; exact hw)⟩
  revert ht
  induction e with
  | pure a => exact fun ht v es => stand rfl rfl fun _ _ => rfl
  | load m a k ih =>
    intro ht v es
    simp only [Sem.runT]
    cases hc : v.cell? a with
    | some x => exact on rfl rfl (ih x (ht x) v _) fun τ d => by rw [show (re v τ d).cell? a = v.cell? a from rfl, hc]
    | none =>
      cases hf : v.farLoad P a (m == .atomic) with
      | error x => exact stand rfl rfl fun τ d => by rw [show (re v τ d).cell? a = v.cell? a from rfl, hc, farLoad_re, hf]; rfl
      | ok r => exact on rfl rfl (ih r.1 (ht r.1) v _) fun τ d => by rw [show (re v τ d).cell? a = v.cell? a from rfl, hc, farLoad_re, hf]
  | store m a x k ih =>
    intro ht v es
    by_cases hx : one x = true
    · simp only [runT_store hx]
      cases hc : v.cell? a with
      | some y =>
        simp only
        by_cases hz : v.frozen? a = true
        · rw [if_pos hz]
          exact stand rfl rfl fun τ d => by rw [show (re v τ d).cell? a = v.cell? a from rfl, hc]; simp only; rw [show (re v τ d).frozen? a = v.frozen? a from rfl, if_pos hz]; rfl
        · rw [if_neg hz]
          exact on (v₁ := v.setCell a x) rfl rfl (ih ht _ _) fun τ d => by rw [show (re v τ d).cell? a = v.cell? a from rfl, hc]; simp only; rw [show (re v τ d).frozen? a = v.frozen? a from rfl, if_neg hz]; rfl
      | none =>
        simp only
        cases hf : v.farStore P a x (m == .atomic) with
        | error y => exact stand rfl rfl fun τ d => by rw [show (re v τ d).cell? a = v.cell? a from rfl, hc, farStore_re, hf]; rfl
        | ok r => exact on (v₁ := r.1) (farStore_tape (l := r.2) hf).1 (farStore_tape (l := r.2) hf).2 (ih ht _ _) fun τ d => by rw [show (re v τ d).cell? a = v.cell? a from rfl, hc, farStore_re, hf]; rfl
    · have e : ∀ u, Sem.runT P (.store m a x k) u es = (.halt (.stuck "store: not the value of one cell") u, es) := fun u => by cases x <;> first | rfl | exact absurd rfl hx
      simp only [e]
      exact stand rfl rfl fun _ _ => rfl
  | new o k ih => exact fun ht v es => on (v₁ := { v with heap := v.heap.push o }) rfl rfl (ih _ (ht _) _ es) fun _ _ => rfl
  | shape r k ih => exact fun ht v es => on rfl rfl (ih _ (ht.1 _) v es) fun _ _ => rfl
  | freeze a n k ih => exact fun ht => ht.elim
  | frozen a k ih => exact fun ht v es => on rfl rfl (ih _ (ht _) v es) fun _ _ => rfl
  | getObj r k ih =>
    intro ht v es
    simp only [Sem.runT]
    cases ho : v.heap[r]? with
    | none => exact stand rfl rfl fun τ d => by rw [re_heap, ho]; rfl
    | some o =>
      cases o with
      | cells c t f => exact stand rfl rfl fun τ d => by rw [re_heap, ho]; rfl
      | _ => exact on rfl rfl (ih _ (ht _) v _) fun τ d => by rw [re_heap, ho]
  | setObj r o k ih =>
    intro ht v es
    simp only [Sem.runT]
    cases ho : v.heap[r]? with
    | none => exact stand rfl rfl fun τ d => by rw [re_heap, ho]; rfl
    | some x =>
      cases x with
      | cells c t f => exact stand rfl rfl fun τ d => by rw [re_heap, ho]; rfl
      | _ => exact on (v₁ := { v with heap := v.heap.setIfInBounds r o }) rfl rfl (ih ht _ _) fun τ d => by rw [re_heap, ho]; rfl
  | choose q k ih =>
    intro ht v es
    simp only [Sem.runT]
    by_cases hq : q.forced = true
    · simp only [hq, if_true]
      exact on rfl rfl (ih _ (ht _) v es) fun _ _ => rfl
    · simp only [hq, if_false, Bool.false_eq_true]
      obtain ⟨m, a1, a2, a3⟩ := ih (q.cut (v.tape v.drawn q)) (ht _) { v with drawn := v.drawn + 1 } es
      refine ⟨m + 1, a1, by rw [a2]; simp only; omega, fun τ d hw => ?_⟩
      have h0 := hw 0 (by omega)
      simp only [Nat.add_zero] at h0
      have := a3 τ (d + 1) (fun i hi => by have := hw (i + 1) (by omega); simp only at this ⊢; rw [show d + 1 + i = d + (i + 1) by omega, show v.drawn + 1 + i = v.drawn + (i + 1) by omega]; exact this)
      simp only [re_tape, re_drawn, h0]
      rw [show d + (m + 1) = d + 1 + m by omega]
      exact this
  | sys c k ih => exact fun ht => ht.elim
  | program k ih => exact fun ht v es => ih P ht v es
  | mark m k ih => exact fun ht v es => on rfl rfl (ih ht.2 v _) fun _ _ => rfl
  | halt x => exact fun ht v es => stand rfl rfl fun _ _ => rfl
end Go.Proofs.Ytadngncbbbbapaa.Lift
