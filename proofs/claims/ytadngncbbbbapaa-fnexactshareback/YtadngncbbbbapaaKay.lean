/-
  From one frame between calls that start workers to the next: the judgement, its rules, and pieces of tame code in it.
-/
import Derived.Test.YtadngncbbbbapaaSeg
import Derived.Conc.FxBegin
namespace Go.Proofs.Ytadngncbbbbapaa.Lift
open Go.Conc Go.Proofs.Ytadngncbbbbapaa.Crew
set_option linter.unusedVariables false
set_option linter.unusedSectionVars false
set_option linter.unusedSimpArgs false
variable {P : Program} {B : Nat} {T : FuncId → Prop} {S : Nat → Prop} {a a' : Goroutine} {v : World} {Q Q' : Goroutine → World → Prop}

/-- Whatever the tape and whoever still leaves: goroutine 0 comes from here to a place of which Q holds. -/
def K (P : Program) (B : Nat) (a : Goroutine) (v : World) (Q : Goroutine → World → Prop) : Prop :=
  ∀ S L m t, (∀ b, S b → B ≤ b) → At P S a v L m t → ∃ N m' t' S' L' a' v', runNT P N m t = (.next m', t') ∧ (∀ b, S' b → B ≤ b) ∧ At P S' a' v' L' m' t' ∧ Q a' v'
theorem K.here (h : Q a v) : K P B a v Q := fun S L m t hS hA => ⟨0, m, t, S, L, a, v, rfl, hS, hA, h⟩
theorem K.bind (h : K P B a v fun a' v' => K P B a' v' Q) : K P B a v Q := fun S L m t hS hA => by
  obtain ⟨N, m', t', S', L', a', v', hr, hS', hA', hk⟩ := h S L m t hS hA
  obtain ⟨N', m₂, t₂, S₂, L₂, a₂, v₂, hr', hS₂, hA₂, hq⟩ := hk S' L' m' t' hS' hA'
  exact ⟨N + N', m₂, t₂, S₂, L₂, a₂, v₂, by rw [runNT_add, hr]; exact hr', hS₂, hA₂, hq⟩
theorem K.mono (h : K P B a v Q) (hq : ∀ a v, Q a v → Q' a v) : K P B a v Q' := fun S L m t hS hA => by
  obtain ⟨N, m', t', S', L', a', v', hr, hS', hA', hk⟩ := h S L m t hS hA
  exact ⟨N, m', t', S', L', a', v', hr, hS', hA', hq _ _ hk⟩
theorem K.re {τ : Nat → Question → Nat} {d : Nat} (h : K P B a (re v τ d) Q) : K P B a v Q := fun S L m t hS hA => h S L m t hS ⟨hA.ex⟩
theorem sim_re {v w : World} (h : Sim S v w) : Sim S (Lift.re v w.tape w.drawn) w := by
  have : Lift.re v w.tape w.drawn = v := by rw [← h.tape, ← h.drawn]; rfl
  rw [this]; exact h
theorem K.step (hrun : a.status = .running) (h : ∀ S w, Sim S (Lift.re v w.tape w.drawn) w → ∃ a' v' w' es, stepG P true a w = .go a' w' es ∧ (∀ e ∈ es, EvO S w'.heap.size e) ∧ w.heap.size ≤ w'.heap.size ∧ Sim S (Lift.re v' w'.tape w'.drawn) w' ∧ K P B a' v' Q) : K P B a v Q :=
  K.bind fun S L m t hS hA => by
    obtain ⟨N, m', t', a', v', hr, hA', hq⟩ := one_step (Q := fun a' v' => K P B a' v' Q) hA hrun (h S)
    exact ⟨N, m', t', S, L, a', v', hr, hS, hA', hq⟩
theorem K.idle (hrun : a.status = .running) (h : ∀ w, stepG P true a w = .go a' w #[]) (hk : K P B a' v Q) : K P B a v Q :=
  K.step hrun fun S w hs => ⟨a', v, w, #[], h w, by simp, Nat.le_refl _, hs, hk⟩

theorem K.maybe {a'' : Goroutine} (h : a = a'' ∨ (a.status = .running ∧ ∀ v, stepG P true a v = .go a'' v #[])) (hk : K P B a'' v Q) : K P B a v Q := by
  rcases h with rfl | ⟨h1, h2⟩
  · exact hk
  · exact K.idle h1 h2 hk

/-! ### pairs: a goroutine that runs alone, and one in company that does the same -/
structure Pair (P : Program) (T : FuncId → Prop) where
  R : Goroutine → Goroutine → Prop
  fin : Goroutine → Prop
  form : ∀ {h g}, R h g → (∃ fr c, h = G fr c) ∧ ∃ fr c, g = G fr c
  both : ∀ {h g}, R h g → ¬ fin h → ∃ g', (g = g' ∨ (g.status = .running ∧ ∀ v, stepG P true g v = .go g' v #[])) ∧ g'.status = .running ∧ Both P T R h g'
  calm : ∀ h, fin h → ¬ Panics h
  never : ∀ h v n h' v', fin h → runN P (n + 1) (loneOf h v) = .next (loneOf h' v') → ¬ fin h'
  halt : ∀ {h v Stop}, fin h → (∀ g v, Stop g v → fin g) → Tree P Stop h v → Stop h v
def land (hF : Fns P T) (A : Pair P T) : Land P where
  ts h := ∃ g, A.R h g
  fin := A.fin
  form := fun h ⟨g, hg⟩ => (A.form hg).1
  go := fun h v ⟨g, hg⟩ hf => by
    obtain ⟨g1, _, _, hbo⟩ := A.both hg hf
    cases hbo with
    | ctl h' g' ht e1 _ => exact .inr ⟨h', v, #[], 0, e1 v, rfl, rfl, .inl ⟨g', ht⟩, fun τ d _ => e1 _⟩
    | draw q H F ht e1 _ => exact .inr ⟨_, _, #[], 1, e1 v, rfl, rfl, .inl ⟨_, ht _⟩, fun τ d hw => by rw [e1]; have := hw 0 (by omega); simp only [Nat.add_zero] at this; simp only [re_tape, re_drawn, this]; rfl⟩
    | op e fh fg ch cg he p1 p2 _ hn hp e1 _ =>
      obtain ⟨m, a1, a2, a3⟩ := tapes he v #[]
      have hl := lock (S := fun _ => False) he v v #[] ⟨rfl, fun _ _ => rfl, fun _ h => h.elim, rfl, rfl, rfl, rfl⟩
      cases hr : e.runT P v #[] with
      | mk r es' =>
        rw [hr] at hl a1 a2 a3
        cases r with
        | ok n u => exact .inr ⟨_, u, _, m, by rw [e1, apply_ok p1 hl.1 hr], a1, a2, .inl ⟨_, hn n hl.1⟩, fun τ d hw => by rw [e1, apply_ok p1 hl.1 (a3 τ d hw)]⟩
        | halt x u =>
          rcases hl with hb' | ⟨⟨pv, rfl⟩, _⟩
          · refine .inl ⟨m, fun τ d hw => ?_⟩
            obtain ⟨o, u', he'⟩ := apply_bad (cs := ch) hF p1 hb' (a3 τ d hw)
            exact ⟨o, u', _, by rw [e1, he']⟩
          · exact .inr ⟨_, u, _, m, by rw [e1, apply_panic p1 hr], a1, a2, .inr (hp pv), fun τ d hw => by rw [e1, apply_panic p1 (a3 τ d hw)]⟩
    | lost e1 => exact .inl ⟨0, fun τ d _ => let ⟨o, u, h⟩ := e1 _; ⟨o, u, _, h⟩⟩
  calm := A.calm
  never := fun h v n h' v' _ hf hr => A.never h v n h' v' hf hr

theorem K.tree (hF : Fns P T) (A : Pair P T) {h : Goroutine} (ht : Tree P (Base (land hF A) fun h w => ∀ g, A.R h g → K P B g w Q) h v) : ∀ {g : Goroutine}, A.R h g → K P B g v Q := by
  induction ht with
  | @stop h v hs => intro g hg; exact hs.2 g hg
  | @step h v f e1 ht' ih =>
    intro g hg
    by_cases hf : A.fin h
    · exact (A.halt hf (fun g v hs => hs.1) (.step f e1 ht')).2 g hg
    · obtain ⟨g1, hi, hrun, hbo⟩ := A.both hg hf
      refine K.maybe hi ?_
      refine K.step hrun fun S w hs => ?_
      obtain ⟨es, he⟩ := e1 w.tape w.drawn
      cases hbo with
      | ctl h' g' ht e2 e3 =>
        rw [e2] at he
        injection he with h1 h2 h3
        refine ⟨g', (f w.tape w.drawn).2, w, #[], e3 w, by simp, Nat.le_refl _, ?_, ih w.tape w.drawn (by rw [← h1]; exact ht)⟩
        rw [← h2]; exact hs
      | draw q H F ht e2 e3 =>
        rw [e2] at he
        injection he with h1 h2 h3
        refine ⟨_, (f w.tape w.drawn).2, _, #[], e3 w, by simp, Nat.le_refl _, ?_, ih w.tape w.drawn (by rw [← h1]; exact ht _)⟩
        rw [← h2]
        exact ⟨hs.size, hs.same, hs.gone, hs.os, hs.output, rfl, rfl⟩
      | op e fh fg ch cg he' p1 p2 hfn hn hp e2 e3 =>
        rw [e2] at he
        have hl := lock (S := S) he' _ w #[] hs
        cases hr : e.runT P (Lift.re v w.tape w.drawn) #[] with
        | mk r es' =>
          rw [hr] at hl
          cases r with
          | ok n u =>
            obtain ⟨hn', w', hw, hs', hk, hev⟩ := hl
            rw [apply_ok p1 hn' hr] at he
            injection he with h1 h2 h3
            refine ⟨_, (f w.tape w.drawn).2, w', _, by rw [e3, apply_ok p2 hn' hw], fun x hx => ?_, ?_, ?_, ih w.tape w.drawn (by rw [← h1]; exact hn n hn')⟩
            · have := (hev x (mem_seen hx)).resolve_left (by simp)
              rw [← hs'.size]; exact this
            · have h4 := hk.2.2
              have h5 := hs.size
              have h6 := hs'.size
              simp only [re_heap] at h4 h5
              omega
            · rw [← h2]; exact sim_re hs'
          | halt x u =>
            rcases hl with hbad | ⟨⟨pv, rfl⟩, _⟩
            · obtain ⟨o, u', h'⟩ := apply_bad (cs := ch) hF p1 hbad hr
              rw [he] at h'; cases h'
            · rw [apply_panic p1 hr] at he
              injection he with h1 h2 h3
              exact absurd (ht' w.tape w.drawn) (panics_tree (show Panics (f w.tape w.drawn).1 by rw [← h1]; exact hp pv))
      | lost e2 =>
        obtain ⟨o, u, h'⟩ := e2 (Lift.re v w.tape w.drawn)
        rw [he] at h'; cases h'
/-- What comes alone to a place to stop, on every tape, comes there in company. -/
theorem K.pair (hF : Fns P T) (A : Pair P T) {h g : Goroutine} (hR : A.R h g) (hrun : ∀ τ, ∃ n h' v', runN P n (loneOf h (Lift.re v τ 0)) = .next (loneOf h' v') ∧ A.fin h' ∧ ∀ g', A.R h' g' → K P B g' v' Q) : K P B g v Q :=
  K.tree hF A (bar (A := land hF A) (R := fun h w => ∀ g, A.R h g → K P B g w Q) (fun g v τ d hR g' hg' => (hR g' hg').re) ⟨_, hR⟩ hrun) hR

/-- A place at which one is lost. -/
theorem no_tree {g : Goroutine} {Stop : Goroutine → World → Prop} {v : World} (he : ∀ v, ∃ o u es, stepG P true g v = .ended o u es) (ht : Tree P Stop g v) : Stop g v := by
  cases ht with
  | stop hs => exact hs
  | step f e1 _ =>
    obtain ⟨es, h1⟩ := e1 v.tape v.drawn
    obtain ⟨o, u, es', h2⟩ := he (Lift.re v v.tape v.drawn)
    rw [h1] at h2; cases h2
/-- One step ahead of such a place. -/
theorem one_tree {g g' : Goroutine} {Stop : Goroutine → World → Prop} {v : World} (hg : ∀ v, stepG P true g v = .go g' v #[]) (he : ∀ v, ∃ o u es, stepG P true g' v = .ended o u es) (hs : ∀ v, ¬ Stop g' v) (ht : Tree P Stop g v) : Stop g v := by
  cases ht with
  | stop hs => exact hs
  | step f e1 ht' =>
    obtain ⟨es, h1⟩ := e1 v.tape v.drawn
    rw [hg] at h1
    injection h1 with h2 _ _
    have := ht' v.tape v.drawn
    rw [← h2] at this
    exact absurd (no_tree he this) (hs _)

section
variable {b : Frame} {kL k : List Item} {cs : List Frame}
theorem tw_form {h g : Goroutine} (ht : Tw P T b kL k cs h g) : (∃ fr c, h = G fr c) ∧ ∃ fr c, g = G fr c := by
  cases ht <;> exact ⟨⟨_, _, rfl⟩, _, _, rfl⟩
theorem fin_calm {h : Goroutine} (hf : Fin b h) : ¬ Panics h := by
  rintro (⟨fr, fs, chain, he, hm, _⟩ | ⟨chain, he⟩) <;> rcases hf with ⟨tmps, rfl⟩ | ⟨tmps, todo, rfl⟩
  · have := congrArg (fun g : Goroutine => g.frame.mode) he
    simp only [G, bf, Frame.at, hm] at this; cases this
  · have := congrArg (fun g : Goroutine => g.frame.mode) he
    simp only [G, rf, Frame.at, hm] at this; cases this
  · have := congrArg Goroutine.callers he; cases this
  · have := congrArg Goroutine.callers he; cases this
theorem fin_never (hb : b.kind = .normal) (hres : ResOk P b.fn) {h : Goroutine} {v : World} {n : Nat} {h' : Goroutine} {v' : World} (hf : Fin b h) (hr : runN P (n + 1) (loneOf h v) = .next (loneOf h' v')) : ¬ Fin b h' := by
  rcases hf with ⟨tmps, rfl⟩ | ⟨tmps, todo, rfl⟩
  · have he : ∃ o u es, stepG P true (G (bf b tmps kS) [c0]) v = .ended o u es := by simp [bf, kS, Frame.at, G, stepG, stepG.exec]
    obtain ⟨o, u, es, he⟩ := he
    simp only [runN, step_end he] at hr
    cases hr
  · obtain ⟨fn, h1, h4⟩ := hres
    obtain ⟨x, hx⟩ := h4 tmps
    have hs : stepG P true (G (rf b tmps todo) [c0]) v = .go (G (c0.finish x) []) v #[] := by
      simp only [rf, Frame.at, G, stepG, unwind, h1, hx, Sem.runT, doReturn, hb]
      simp [GStep.after, seen]
    have he : ∃ o u es, stepG P true (G (c0.finish x) []) v = .ended o u es := ⟨_, _, _, by simp only [G, stepG, c0, Frame.finish, stepG.exec]; rfl⟩
    simp only [runN, step_go hs] at hr
    cases n with
    | zero =>
      simp only [runN, Stepped.next.injEq] at hr
      have := congrArg Machine.gs hr
      simp only [loneOf] at this
      have h2 := congrArg (fun a : Array Goroutine => (a[0]?).map (·.callers)) this
      rintro (⟨tmps', rfl⟩ | ⟨tmps', todo', rfl⟩) <;> simp [G] at h2
    | succ n =>
      obtain ⟨o, u, es, he⟩ := he
      simp only [runN, step_end he] at hr
      cases hr
/-- What is asked where the piece of code is left. -/
def Left (P : Program) (B : Nat) (b : Frame) (k : List Item) (cs : List Frame) (Q : Goroutine → World → Prop) (e : Exit) (a : Act) (w : World) : Prop :=
  (e = .normal ∧ a.defers = [] ∧ K P B (G (b.at a k) cs) w Q) ∨ (e = .ret ∧ a.defers = [] ∧ ∀ pre, K P B (G (rf b a.tmps (pre ++ k)) cs) w Q)
theorem kS_self {pre : List Item} (h : pre ++ kS = kS) : pre = [] := by
  have := congrArg List.length h
  simp at this
  exact this
def pairT (hF : Fns P T) (hb : b.kind = .normal) (hres : ResOk P b.fn) (k : List Item) (cs : List Frame) : Pair P T where
  R := Tw P T b kS k cs
  fin := Fin b
  form := tw_form
  both := fun {h g} hR hf => ⟨g, .inl rfl, by obtain ⟨_, fr, c, rfl⟩ := tw_form hR; rfl, Lift.both hF hb (fun _ => rfl) hR (fun tmps e => hf (.inl ⟨tmps, e⟩)) (fun tmps todo e => hf (.inr ⟨tmps, todo, e⟩))⟩
  calm := fun h hf => fin_calm hf
  never := fun h v n h' v' hf hr => fin_never hb hres hf hr
  halt := fun {h v Stop} hf hS ht => by
    rcases hf with ⟨tmps, rfl⟩ | ⟨tmps, todo, rfl⟩
    · exact no_tree (fun v => by simp [bf, kS, Frame.at, G, stepG, stepG.exec]) ht
    · obtain ⟨fn, h1, h4⟩ := hres
      obtain ⟨x, hx⟩ := h4 tmps
      refine one_tree (g' := G (c0.finish x) []) (fun v => ?_) (fun v => ⟨_, _, _, by simp only [G, stepG, c0, Frame.finish, stepG.exec]; rfl⟩) (fun v hs => ?_) ht
      · simp only [rf, Frame.at, G, stepG, unwind, h1, hx, Sem.runT, doReturn, hb]
        simp [GStep.after, seen]
      · rcases hS _ _ hs with ⟨t', he'⟩ | ⟨t', td', he'⟩ <;>
        · have := congrArg (fun g : Goroutine => g.callers.length) he'
          simp [G] at this
theorem tw_bf {tmps : Array Value} {g : Goroutine} (hg : Tw P T b kS k cs (G (bf b tmps kS) [c0]) g) : g = G (bf b tmps k) cs := by
  generalize hh : G (bf b tmps kS) [c0] = h at hg
  cases hg with
  | top tmps' pre hp =>
    have e1 : tmps = tmps' := congrArg (fun g : Goroutine => g.frame.tmps) hh
    have e2 : kS = pre ++ kS := congrArg (fun g : Goroutine => g.frame.todo) hh
    subst e1
    obtain rfl := kS_self e2.symm
    rfl
  | up fr fs tmps' ops i rest pre hst hp =>
    have := congrArg (fun g : Goroutine => g.callers.length) hh
    simp [G] at this
  | ret tmps' pre => have := congrArg (fun g : Goroutine => g.frame.mode) hh; simp [G, bf, rf, Frame.at] at this
theorem tw_rf {tmps : Array Value} {todo : List Item} {g : Goroutine} (hg : Tw P T b kS k cs (G (rf b tmps todo) [c0]) g) : ∃ pre, g = G (rf b tmps (pre ++ k)) cs := by
  generalize hh : G (rf b tmps todo) [c0] = h at hg
  cases hg with
  | top tmps' pre hp => have := congrArg (fun g : Goroutine => g.frame.mode) hh; simp [G, bf, rf, Frame.at] at this
  | up fr fs tmps' ops i rest pre hst hp =>
    have := congrArg (fun g : Goroutine => g.callers.length) hh
    simp [G] at this
  | ret tmps' pre =>
    have e1 : tmps = tmps' := congrArg (fun g : Goroutine => g.frame.tmps) hh
    subst e1
    exact ⟨pre, rfl⟩

/-- A piece of tame code. -/
theorem K.seg (hF : Fns P T) (hb : b.kind = .normal) (hres : ResOk P b.fn) {c : Code} (hc : CodeT P T c) {tmps : Array Value} (hw : ∀ τ, c.wp P (Left P B b k cs Q) ⟨tmps, []⟩ (Lift.re v τ 0)) : K P B (G (b.at ⟨tmps, []⟩ (.code c :: k)) cs) v Q := by
  have hts : Tw P T b kS k cs (G (bf b tmps ([.code c] ++ kS)) [c0]) (G (bf b tmps ([.code c] ++ k)) cs) := .top tmps [.code c] (fun x hx => by simp only [List.mem_singleton] at hx; subst hx; exact hc)
  refine K.pair hF (pairT hF hb hres k cs) hts fun τ => ?_
  obtain ⟨e, a', w', hq, harr⟩ := hw τ b kS [c0]
  obtain ⟨tm, ds⟩ := a'
  rcases hq with ⟨rfl, hd, hk⟩ | ⟨rfl, hd, hk⟩
  · have hd' : ds = [] := hd
    subst hd'
    obtain ⟨n, hn⟩ := harr
    refine ⟨n, G (bf b tm kS) [c0], w', hn, .inl ⟨tm, rfl⟩, fun g' hg' => ?_⟩
    rw [tw_bf hg']
    exact hk
  · have hd' : ds = [] := hd
    subst hd'
    obtain ⟨todo, n, hn⟩ := harr
    refine ⟨n, G (rf b tm todo) [c0], w', hn, .inr ⟨tm, todo, rfl⟩, fun g' hg' => ?_⟩
    obtain ⟨pre, rfl⟩ := tw_rf hg'
    exact hk pre
end
end Go.Proofs.Ytadngncbbbbapaa.Lift
