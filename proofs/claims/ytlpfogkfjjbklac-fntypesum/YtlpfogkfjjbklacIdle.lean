/-
  Steps that are the same in every world, told by the kernel's own reckoning.
-/
import Derived.Test.YtlpfogkfjjbklacCrew
import Derived.Test.YtlpfogkfjjbklacRows
import Derived.WalkKit
namespace Go.Proofs.Ytlpfogkfjjbklac.Wgs
open Go.Conc Go.Proofs.Ytlpfogkfjjbklac.Crew
set_option linter.unusedVariables false
/-- Where the next step leads in a world of nothing. -/
def nx (P : Program) (main : Bool) (g : Goroutine) : Goroutine := match stepG P main g default with | .go g' _ _ => g' | _ => g
def nxs (P : Program) (main : Bool) : Nat → Goroutine → Goroutine
  | 0, g => g
  | n + 1, g => nxs P main n (nx P main g)
def didL (P : Program) (main : Bool) : Nat → Goroutine → World → List (GStep × GoStatus)
  | 0, _, _ => []
  | n + 1, g, w => (stepG P main g w, g.status) :: didL P main n (nx P main g) w
def askL (P : Program) (main : Bool) : Nat → Goroutine → World → List (GStep × GoStatus)
  | 0, _, _ => []
  | n + 1, g, w => (.go (nx P main g) w #[], .running) :: askL P main n (nx P main g) w
theorem still_nxs {P : Program} {Stop : Goroutine → Prop} : ∀ {n : Nat} {g : Goroutine}, (∀ w, didL P false n g w = askL P false n g w) → Stop (nxs P false n g) → Still P Stop n g
  | 0, g, _, hs => hs
  | n + 1, g, h, hs => by
    have h1 : ∀ w, stepG P false g w = .go (nx P false g) w #[] := fun w => by
      have := h w
      simp only [didL, askL, List.cons.injEq, Prod.mk.injEq] at this
      exact this.1.1
    have h2 : g.status = .running := by
      have := h default
      simp only [didL, askL, List.cons.injEq, Prod.mk.injEq] at this
      exact this.1.2
    exact .inr ⟨h2, nx P false g, h1, still_nxs (fun w => by
      have := h w
      simp only [didL, askL, List.cons.injEq] at this
      exact this.2) hs⟩
/-- Idle steps, then what goes on. -/
theorem goes_nxs {P : Program} {main : Bool} {R : World → World → Prop} {D : World → World → Array Event → Prop} {Stop : Goroutine → World → Prop} (hR : ∀ a b c, R a b → R b c → R a c) (hD : ∀ w, D w w #[]) : ∀ {n m : Nat} {g : Goroutine} {w : World}, (∀ w, didL P main n g w = askL P main n g w) → Goes P main R D Stop m (nxs P main n g) w → Goes P main R D Stop (m + n) g w
  | 0, m, g, w, _, hs => hs
  | n + 1, m, g, w, h, hs => by
    have h1 : ∀ w, stepG P main g w = .go (nx P main g) w #[] := fun w => by
      have := h w
      simp only [didL, askL, List.cons.injEq, Prod.mk.injEq] at this
      exact this.1.1
    have h2 : g.status = .running := by
      have := h default
      simp only [didL, askL, List.cons.injEq, Prod.mk.injEq] at this
      exact this.1.2
    refine .inr ⟨h2, fun w₁ hr => ?_⟩
    rw [h1]
    exact ⟨hD w₁, goes_nxs hR hD (fun w => by
      have := h w
      simp only [didL, askL, List.cons.injEq] at this
      exact this.2) (Goes.rely hR hs hr)⟩
/-- One step that turns nothing. -/
theorem goes_one {P : Program} {main : Bool} {R : World → World → Prop} {D : World → World → Array Event → Prop} {Stop : Goroutine → World → Prop} {m : Nat} {g : Goroutine} {w : World} (hr : g.status = .running) (h : ∀ w₁, R w w₁ → ∃ g' es, stepG P main g w₁ = .go g' w₁ es ∧ D w₁ w₁ es ∧ Goes P main R D Stop m g' w₁) : Goes P main R D Stop (m + 1) g w := by
  refine .inr ⟨hr, fun w₁ r => ?_⟩
  obtain ⟨g', es, h1, h2, h3⟩ := h w₁ r
  rw [h1]
  exact ⟨h2, h3⟩
/-- The operation has given this. -/
def aft (g : Goroutine) (x : Value) : Goroutine := G (g.frame.finish x) g.callers
/-- Where a goroutine stands in a region. -/
def opsAt (g : Goroutine) : Array Oper := match g.frame.todo with | .inRegion ops _ :: _ => ops | _ => #[]
def idxAt (g : Goroutine) : List Nat := match g.frame.todo with | .inRegion _ l :: _ => l | _ => []
def tailAt (g : Goroutine) : List Item := g.frame.todo.drop 1
def operAt (g : Goroutine) : Oper := (((idxAt g).head?).bind ((opsAt g)[·]?)).getD default
def semAt (g : Goroutine) : Sem Next := execOp g.frame.eval (operAt g)
/-- It stands at an operation that is wanted, in an ordinary frame. -/
structure Stands (g : Goroutine) : Prop where
  todo : g.frame.todo = .inRegion (opsAt g) ((idxAt g).headD 0 :: (idxAt g).drop 1) :: tailAt g
  oper : (opsAt g)[(idxAt g).headD 0]? = some (operAt g)
  want : Region.wanted (operAt g) (yielded (opsAt g) g.frame.tmps) = true
  mode : g.frame.mode = .run
  run : g.status = .running
  kind : (g.frame.kind == CallKind.early) = false
  alive : g.dying = none
  round : g.frame.roundOf = none
theorem Stands.step {P : Program} {main : Bool} {g : Goroutine} (h : Stands g) (w : World) : stepG P main g w = stepG.apply P true g.frame g.callers none (semAt g) w := by
  obtain ⟨h1, h2, h3, h4, h5, h6, h7, h8⟩ := h
  unfold semAt
  generalize operAt g = o at *
  generalize opsAt g = ops at *
  generalize (idxAt g).headD 0 = i at *
  generalize (idxAt g).drop 1 = r at *
  generalize tailAt g = k at *
  obtain ⟨⟨fn, tmps, todo, defers, mode, kind, round⟩, callers, status, dying, offers⟩ := g
  simp only at h1 h3 h4 h5 h7 h8
  subst h1 h4 h5 h7 h8
  simp [stepG, stepG.exec, stepG.oper, Frame.oper?, h2, h3]
def nf (P : Program) {α : Type} : Sem α → Sem α
  | .program k => nf P (k P)
  | e => e
theorem nf_run {P : Program} {α : Type} {w : World} {es : Array Event} : ∀ {e : Sem α}, (nf P e).runT P w es = e.runT P w es
  | .program k => by simp only [nf, Sem.runT]; exact nf_run
  | .pure _ | .load _ _ _ | .store _ _ _ _ | .new _ _ | .shape _ _ | .freeze _ _ _ | .frozen _ _ | .getObj _ _ | .setObj _ _ _ | .choose _ _ | .sys _ _ | .mark _ _ | .halt _ => rfl
/-! what comes behind each head -/
def xF (P : Program) (e : Sem Next) : FuncId := match nf P e with | .mark (.extern f) _ => f | _ => 0
def xK (P : Program) (e : Sem Next) : Sem Next := match nf P e with | .mark _ k => nf P k | e => e
def lK (e : Sem Next) : Value → Sem Next := match e with | .load _ _ k => k | e => fun _ => e
def sK (e : Sem Next) : Sem Next := match e with | .store _ _ _ k => k | e => e
def mkx (f : FuncId) : Event := ⟨.mark (.extern f), false, true⟩
open Go.ConcR (rd wr) in
/-- It loads a cell, and stores into it. -/
theorem run_rmw {P : Program} {e : Sem Next} {a : Addr} {x : Value} {y : Int} {n : Next} {w : World} (h1 : nf P e = .mark (.extern (xF P e)) (xK P e)) (h2 : xK P e = .load .atomic a (lK (xK P e))) (h3 : nf P (lK (xK P e) x) = .store .atomic a (.int .u64 y) (sK (nf P (lK (xK P e) x)))) (h4 : nf P (sK (nf P (lK (xK P e) x))) = .pure n)
    (hc : w.cell? a = some x) (hf : w.frozen? a = false) : e.runT P w #[] = (.ok n (w.setCell a (.int .u64 y)), #[mkx (xF P e), rd a, wr a]) := by
  rw [← nf_run, h1, Sem.runT, h2, Sem.runT, hc]
  simp only
  rw [← nf_run, h3]
  simp only [Sem.runT, hc, hf]
  rw [← nf_run, h4]
  rfl
theorem Stands.value {P : Program} {main : Bool} {g : Goroutine} (h : Stands g) {w w' : World} {x : Value} {es es' : Array Event} (hr : (semAt g).runT P w #[] = (.ok (.value x) w', es)) (he : seen P g.frame.fn es = es') : stepG P main g w = .go (aft g x) w' es' := by
  rw [h.step w]
  simp only [stepG.apply, if_true, hr, h.kind, Bool.false_eq_true, if_false, GStep.after, Array.append_empty, he, aft, G]
open Go.ConcR (rd wr) in
/-- It loads a cell. -/
theorem run_ld {P : Program} {e : Sem Next} {a : Addr} {x : Value} {n : Next} {w : World} (h1 : nf P e = .mark (.extern (xF P e)) (xK P e)) (h2 : xK P e = .load .atomic a (lK (xK P e))) (h3 : nf P (lK (xK P e) x) = .pure n)
    (hc : w.cell? a = some x) : e.runT P w #[] = (.ok n w, #[mkx (xF P e), rd a]) := by
  rw [← nf_run, h1, Sem.runT, h2, Sem.runT, hc]
  simp only
  rw [← nf_run, h3]
  rfl
open Go.ConcR (rd wr) in
/-- It stores into a cell. -/
theorem run_st {P : Program} {e : Sem Next} {a : Addr} {x : Value} {y : Int} {n : Next} {w : World} (h1 : nf P e = .mark (.extern (xF P e)) (xK P e)) (h2 : xK P e = .store .atomic a (.int .u64 y) (sK (xK P e))) (h3 : nf P (sK (xK P e)) = .pure n)
    (hc : w.cell? a = some x) (hf : w.frozen? a = false) : e.runT P w #[] = (.ok n (w.setCell a (.int .u64 y)), #[mkx (xF P e), wr a]) := by
  rw [← nf_run, h1, Sem.runT, h2]
  simp only [Sem.runT, hc, hf]
  rw [← nf_run, h3]
  rfl
/-- It gives to, or takes from, a semaphore. -/
theorem run_sem {P : Program} {e : Sem Next} {a : Addr} {x : Value} {y : Int} {n : Next} {w : World} (h1 : nf P e = .mark (.extern (xF P e)) (xK P e)) (h2' : nf P (xK P e) = .mark .disable (xK P (xK P e))) (h3 : xK P (xK P e) = .load .atomic a (lK (xK P (xK P e)))) (h4 : nf P (lK (xK P (xK P e)) x) = .store .atomic a (.int .u32 y) (sK (nf P (lK (xK P (xK P e)) x)))) (h5 : nf P (sK (nf P (lK (xK P (xK P e)) x))) = .mark .enable (xK P (sK (nf P (lK (xK P (xK P e)) x))))) (h6 : xK P (sK (nf P (lK (xK P (xK P e)) x))) = .pure n)
    (hc : w.cell? a = some x) (hf : w.frozen? a = false) : e.runT P w #[] = (.ok n (w.setCell a (.int .u32 y)), #[mkx (xF P e)] ++ semEvents a) := by
  rw [← nf_run, h1, Sem.runT, ← nf_run, h2', Sem.runT, h3, Sem.runT, hc]
  simp only
  rw [← nf_run, h4]
  simp only [Sem.runT, hc, hf]
  rw [← nf_run, h5, Sem.runT, h6]
  rfl
/-! ### on the way out -/
def evs (P : Program) (g : Goroutine) : Array Event := (stepG P false g default).es
def saidsL (P : Program) : Nat → Goroutine → World → List (GStep × GoStatus)
  | 0, _, _ => []
  | n + 1, g, w => (.go (nx P false g) w (evs P g), .running) :: saidsL P n (nx P false g) w
def allMute (P : Program) : Nat → Goroutine → Bool
  | 0, _ => true
  | n + 1, g => (evs P g).all Event.mute && allMute P n (nx P false g)
def deafN (P : Program) : Nat → Nat → Goroutine → Nat
  | 0, d, _ => d
  | n + 1, d, g => deafN P n (deafBehind d (evs P g)) (nx P false g)
theorem quits_nxs {P : Program} : ∀ {n d : Nat} {g : Goroutine}, (∀ w, didL P false n g w = saidsL P n g w) → allMute P n g = true → deafN P n d g = 0 → (nxs P false n g).status = .finished → QuitsD P n d g
  | 0, d, g, _, _, hd, hs => ⟨hs, hd⟩
  | n + 1, d, g, h, hm, hd, hs => by
    have h1 : ∀ w, stepG P false g w = .go (nx P false g) w (evs P g) := fun w => by
      have := h w
      simp only [didL, saidsL, List.cons.injEq, Prod.mk.injEq] at this
      exact this.1.1
    have h2 : g.status = .running := by
      have := h default
      simp only [didL, saidsL, List.cons.injEq, Prod.mk.injEq] at this
      exact this.1.2
    simp only [allMute, Bool.and_eq_true] at hm
    exact .inr ⟨h2, nx P false g, evs P g, fun e he => Array.all_eq_true'.1 hm.1 e he, h1, quits_nxs (fun w => by
      have := h w
      simp only [didL, saidsL, List.cons.injEq] at this
      exact this.2) hm.2 hd hs⟩
end Go.Proofs.Ytlpfogkfjjbklac.Wgs
