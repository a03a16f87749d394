/-
  Tame code that comes to an end on every tape when it runs alone comes to it by steps of which each is the next whatever the tape gives there.
-/
import Derived.Test.YtadngncbbbbapaaSteps
namespace Go.Proofs.Ytadngncbbbbapaa.Lift
open Go.Conc
set_option linter.unusedVariables false
set_option linter.unusedSectionVars false
set_option linter.unusedSimpArgs false
variable {P : Program} {T : FuncId → Prop} {S : Nat → Prop}

theorem mem_seen {fn : FuncId} {es : Array Event} {x : Event} (h : x ∈ seen P fn es) : x ∈ es := by
  have key : ∀ (l : List Event) (f : Bool × Array Event → Event → Bool × Array Event), (∀ a e y, y ∈ (f a e).2 → y ∈ a.2 ∨ y = e) → ∀ a, ∀ y ∈ (l.foldl f a).2, y ∈ a.2 ∨ y ∈ l := by
    intro l f hf
    induction l with
    | nil => exact fun a y hy => .inl hy
    | cons e l ih =>
      intro a y hy
      rcases ih (f a e) y hy with h1 | h1
      · rcases hf a e y h1 with h2 | h2
        · exact .inl h2
        · exact .inr (by simp [h2])
      · exact .inr (by simp [h1])
  dsimp only [seen] at h
  rw [← Array.foldl_toList] at h
  have := key es.toList _ (fun a e y hy => ?_) _ x h
  · simpa using this
  · obtain ⟨q, kept⟩ := a
    dsimp only at hy
    split at hy
    · exact .inl hy
    · dsimp only at hy
      split at hy
      · exact .inl hy
      · exact (Array.mem_push.1 hy).imp id id

/-- What becomes of the frame. -/
def after (fr : Frame) (cs : List Frame) : Next → Goroutine
  | .value x => G (fr.finish x) cs
  | .enter f a => G (Frame.enter P f a .normal) (fr :: cs)
  | _ => G (fr.finish undef) cs
/-- An ordinary frame. -/
structure Plain (fr : Frame) : Prop where
  kind : fr.kind = .normal
  todo : ∀ d b r s k, fr.todo ≠ .call d b r s :: k
theorem FrT.plain {fr : Frame} (h : FrT P T fr) : Plain fr := ⟨h.kind, fun d b r s k e => h.todo (.call d b r s) (by rw [e]; exact List.mem_cons_self)⟩
theorem apply_ok {fr : Frame} {cs : List Frame} {e : Sem Next} {v v' : World} {es : Array Event} {n : Next} (h : Plain fr) (hn : NextOk T n) (hr : e.runT P v #[] = (.ok n v', es)) :
    stepG.apply P true fr cs none e v = .go (after (P := P) fr cs n) v' (seen P fr.fn es) := by
  have hk2 : (fr.kind == CallKind.early) = false := by rw [h.kind]; rfl
  cases n with
  | value x => simp only [stepG.apply, if_true, hr, hk2, Bool.false_eq_true, if_false, GStep.after, after, G, Array.append_empty]
  | skip => simp only [stepG.apply, if_true, hr, hk2, Bool.false_eq_true, if_false, GStep.after, after, G, Array.append_empty]
  | enter f a =>
    simp only [stepG.apply, if_true, hr, hk2, Bool.false_eq_true, if_false, GStep.after, after, G, Array.append_empty]
    split
    · rename_i e'
      exact absurd e' (h.todo _ _ _ _ _)
    · rfl
  | _ => exact hn.elim
theorem apply_panic {fr : Frame} {cs : List Frame} {e : Sem Next} {v v' : World} {es : Array Event} {x : Value} (h : Plain fr) (hr : e.runT P v #[] = (.halt (.panic x) v', es)) :
    stepG.apply P true fr cs none e v = .go (G (fr.raise [{ v := x, recovered := false }]) cs) v' (seen P fr.fn es) := by
  have hk2 : (fr.kind == CallKind.early) = false := by rw [h.kind]; rfl
  simp only [stepG.apply, if_true, hr, hk2, Bool.false_eq_true, if_false, GStep.after, G, Array.append_empty]
/-- The events of a step that ends the run. -/
def badEs (es : Array Event) : Halt → Array Event
  | .unsupported (.initOrder _) => #[]
  | _ => es
theorem apply_bad (hF : Fns P T) {fr : Frame} {cs : List Frame} {e : Sem Next} {v v' : World} {es : Array Event} {x : Halt} (h : Plain fr) (hb : Bad x) (hr : e.runT P v #[] = (.halt x v', es)) :
    ∃ o u, stepG.apply P true fr cs none e v = .ended o u (seen P fr.fn (badEs es x)) := by
  have hk2 : (fr.kind == CallKind.early) = false := by rw [h.kind]; rfl
  cases x <;> first | exact hb.elim | skip
  · rename_i u
    cases u <;> first
      | exact ⟨_, _, by simp only [stepG.apply, hr, hk2, if_true, if_false, Bool.false_eq_true, GStep.after, Array.append_empty, badEs]; rfl⟩
      | exact ⟨_, _, by simp only [stepG.apply, hr, hk2, if_true, if_false, Bool.false_eq_true, Bool.not_true, GStep.after, early, hF.ahead, hF.none, Array.append_empty, badEs]; rfl⟩
  · exact ⟨_, _, by simp only [stepG.apply, hr, hk2, if_true, if_false, Bool.false_eq_true, GStep.after, Array.append_empty, badEs]; rfl⟩

/-! ### a stack of tame frames -/
/-- The frame at the foot: who unwinds into it is lost. -/
def c0 : Frame := { fn := 0, tmps := #[], todo := [.code (.refuse "")], defers := [{ target := .nil, args := #[] }], mode := .run, kind := .normal }
structure St (P : Program) (T : FuncId → Prop) (fr : Frame) (fs : List Frame) : Prop where
  top : FrT P T fr
  up : ∀ f ∈ fs, FrT P T f ∧ f.mode = .run
def Panics (g : Goroutine) : Prop := (∃ fr fs chain, g = G fr (fs ++ [c0]) ∧ fr.mode = .panicking chain ∧ fr.defers = [] ∧ ∀ f ∈ fs, f.defers = []) ∨ ∃ chain, g = G { c0 with mode := .panicking chain } []

theorem after_st (hF : Fns P T) {fr : Frame} {fs : List Frame} (h : St P T fr fs) (hr : fr.mode = .run) {n : Next} (hn : NextOk T n) : ∃ fr' fs', St P T fr' fs' ∧ ∀ tl, after (P := P) fr (fs ++ tl) n = G fr' (fs' ++ tl) := by
  cases n with
  | value x => exact ⟨_, fs, ⟨finish_tame h.top x hr, h.up⟩, fun _ => rfl⟩
  | skip => exact ⟨_, fs, ⟨finish_tame h.top undef hr, h.up⟩, fun _ => rfl⟩
  | enter f a => exact ⟨_, fr :: fs, ⟨enter_tame hF hn a, fun x hx => by
      rcases List.mem_cons.1 hx with rfl | hx
      · exact ⟨h.top, hr⟩
      · exact h.up x hx⟩, fun _ => rfl⟩
  | _ => exact hn.elim

end Go.Proofs.Ytadngncbbbbapaa.Lift
