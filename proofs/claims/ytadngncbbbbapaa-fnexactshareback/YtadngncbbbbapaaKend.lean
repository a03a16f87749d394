/-
  From the entry of a law to its end.
-/
import Derived.Test.YtadngncbbbbapaaKayp
namespace Go.Proofs.Ytadngncbbbbapaa.Lift
open Go.Conc Go.Proofs.Ytadngncbbbbapaa.Crew
set_option linter.unusedVariables false
set_option linter.unusedSectionVars false
set_option linter.unusedSimpArgs false
variable {P : Program} {B : Nat} {a : Goroutine} {W : World} {Q : Goroutine → World → Prop}

theorem nr0 (said : Bool) : ¬ Race said (#[] : Trace) := by
  rintro ⟨i, j, _, ⟨a, b, ha, _⟩, _⟩
  simp [Trace.act?] at ha
theorem at_start (P : Program) (a : Goroutine) (W : World) : At P (fun _ => False) a W 0 (solo a W) #[] :=
  ⟨#[a], W, none, fun _ => 0, rfl, rfl, rfl, ⟨fun i g hi hg => by
    have := (Array.getElem?_eq_some_iff.1 hg).1
    simp at this; omega, fun j _ => Go.ConcN.Deaf_absent fun i op hi => by simp at hi⟩,
    ⟨⟨fun said => nr0 said, fun i x hx => absurd hx (by simp [touchAt, Trace.act?]), fun i g hg => by simp [Trace.g?] at hg, Go.ConcN.Deaf_absent fun i op hi => by simp at hi, fun op hop => by simp at hop⟩, fun i op x hi => by simp at hi, fun i x hx => absurd hx (by simp [touchAt, Trace.act?]), fun i op hi => by simp at hi⟩,
    ⟨rfl, fun _ _ => rfl, fun _ h => h.elim, rfl, rfl, rfl, rfl⟩⟩
/-- Where the law's own frame is left. -/
def AtRet (P : Program) (B : Nat) (Post : Value → World → Prop) (a : Goroutine) (v : World) : Prop :=
  ∃ (b : Frame) (tmps : Array Value) (todo : List Item) (fn : Func) (x : Value), a = G (rf b tmps todo) [] ∧ b.kind = .normal ∧ P.funcs[b.fn]? = some fn ∧ P.inits.idxOf? b.fn = none ∧ results fn tmps = .pure x ∧ ∀ S w, (∀ b, S b → B ≤ b) → Sim S (re v w.tape w.drawn) w → Post x w
theorem K.done {Post : Value → World → Prop} (hk : K P B a W (AtRet P B Post)) :
    ∃ M last o w' t', runNT P (M + 1) (solo a W) #[] = (.ended o w', t') ∧ runN P M (solo a W) = .next last ∧ Go.step P last = .ended o w' ∧ Good P Post last o w' t' := by
  obtain ⟨N, m, t, S, L, a', v', hr, hS, hA, b, tmps, todo, fn, x, rfl, hb, hfn, hin, hx, hpost⟩ := hk _ _ _ _ (fun _ h => h.elim) (at_start P a W)
  obtain ⟨gs, w, sl, q, rfl, h0, hsz, hL, hF, hSim⟩ := hA.ex
  have hend : ∀ w, stepG P true (G (rf b tmps todo) []) w = .ended (.done x) w #[] := fun w => by
    simp only [rf, Frame.at, G, stepG, unwind, hfn, hx, Sem.runT, doReturn, hb]
    simp [GStep.after, seen, hin]
  obtain ⟨M, last, o, w', t', h1, h2, h3, h4⟩ := beside_ends (P := P) (Shun := shun S) (B := w.heap.size) (D := fun _ _ _ => False) (Post := Post) (fun _ _ _ h => h.elim) (sl := sl) (n := 0) h0 hL hF.past (w := w) (fun w₁ hr₁ => by
    obtain ⟨d, rfl⟩ := hr₁
    exact ⟨rfl, x, #[], hend _, by simp, hpost S _ hS ⟨hSim.size, hSim.same, hSim.gone, hSim.os, hSim.output, rfl, rfl⟩⟩)
  have hrn : runN P N (solo a W) = .next (crowd gs w sl) := by rw [← runNT_fst P N (solo a W) #[], hr]
  exact ⟨N + M, last, o, w', t', by rw [show N + M + 1 = N + (M + 1) by omega, runNT_add, hr]; exact h1, by rw [runN_add, hrn]; exact h2, h3, h4⟩
end Go.Proofs.Ytadngncbbbbapaa.Lift
