/-
  Several tame statements in a row, and what comes behind them.
-/
import Derived.Test.YtadngncbbbbapaaKayc
namespace Go.Proofs.Ytadngncbbbbapaa.Lift
open Go.Conc Go.Proofs.Ytadngncbbbbapaa.Crew
set_option linter.unusedVariables false
set_option linter.unusedSectionVars false
set_option linter.unusedSimpArgs false
variable {P : Program} {B : Nat} {T : FuncId → Prop} {v : World} {Q : Goroutine → World → Prop}
def spine1 : Code → List Code → Code
  | c, [] => c
  | c, d :: l => .seq c (spine1 d l)
def spine : List Code → Code → Code
  | [], r => r
  | c :: l, r => .seq c (spine l r)
section
variable (P : Program) (T : FuncId → Prop) (b : Frame) (rest : Code) (k : List Item) (cs : List Frame)
inductive TwS : Goroutine → Goroutine → Prop
  | a (c : Code) (l : List Code) {h g : Goroutine} : (∀ x ∈ c :: l, CodeT P T x) → Tw P T b (.code (spine1 c l) :: kS) (.code (spine (c :: l) rest) :: k) cs h g → TwS h g
  | z {h g : Goroutine} : Tw P T b kS (.code rest :: k) cs h g → TwS h g
end
section
variable {b : Frame} {rest : Code} {k : List Item} {cs : List Frame}
theorem tws_form {h g : Goroutine} (ht : TwS P T b rest k cs h g) : (∃ fr c, h = G fr c) ∧ ∃ fr c, g = G fr c := by
  cases ht with
  | a c l _ ht => exact tw_form ht
  | z ht => exact tw_form ht
theorem bothS (hF : Fns P T) (hb : b.kind = .normal) {h g : Goroutine} (ht : TwS P T b rest k cs h g) (hf : ¬ Fin b h) :
    ∃ g', (g = g' ∨ (g.status = .running ∧ ∀ v, stepG P true g v = .go g' v #[])) ∧ g'.status = .running ∧ Both P T (TwS P T b rest k cs) h g' := by
  have f1 : ∀ tmps, h ≠ G (bf b tmps kS) [c0] := fun tmps e => hf (.inl ⟨tmps, e⟩)
  have f2 : ∀ tmps todo, h ≠ G (rf b tmps todo) [c0] := fun tmps todo e => hf (.inr ⟨tmps, todo, e⟩)
  cases ht with
  | z ht => exact ⟨g, .inl rfl, by obtain ⟨_, fr, c, rfl⟩ := tw_form ht; rfl, (Lift.both hF hb (fun _ => rfl) ht f1 f2).mono fun _ _ => .z⟩
  | a c l hc ht =>
    have run : g.status = .running := by obtain ⟨_, fr, c, rfl⟩ := tw_form ht; rfl
    by_cases he : ∃ tmps, h = G (bf b tmps (.code (spine1 c l) :: kS)) [c0]
    · obtain ⟨tmps, rfl⟩ := he
      have hg : g = G (bf b tmps (.code (spine (c :: l) rest) :: k)) cs := by
        generalize hh : G (bf b tmps (.code (spine1 c l) :: kS)) [c0] = h at ht
        cases ht with
        | top tmps' pre hp =>
          have e1 : tmps = tmps' := congrArg (fun g : Goroutine => g.frame.tmps) hh
          have e2 : .code (spine1 c l) :: kS = pre ++ .code (spine1 c l) :: kS := congrArg (fun g : Goroutine => g.frame.todo) hh
          subst e1
          have e3 := congrArg List.length e2
          simp at e3
          subst e3
          rfl
        | up fr fs tmps' ops i rest pre hst hp =>
          have := congrArg (fun g : Goroutine => g.callers.length) hh
          simp [G] at this
        | ret tmps' pre => have := congrArg (fun g : Goroutine => g.frame.mode) hh; simp [G, bf, rf, Frame.at] at this
      subst hg
      have hcc := hc c List.mem_cons_self
      have one : ∀ x ∈ [Item.code c], ItemT P T x := fun x hx => by simp only [List.mem_singleton] at hx; subst hx; exact hcc
      cases l with
      | nil => exact ⟨G (bf b tmps ([.code c] ++ .code rest :: k)) cs, .inr ⟨run, fun v => by simp [bf, Frame.at, G, stepG, stepG.exec, spine]⟩, rfl, (Lift.both hF hb (fun _ => rfl) (Tw.top tmps [.code c] one) f1 f2).mono fun _ _ => .z⟩
      | cons d l => exact ⟨_, .inl rfl, rfl, .ctl (G (bf b tmps ([.code c] ++ .code (spine1 d l) :: kS)) [c0]) (G (bf b tmps ([.code c] ++ .code (spine (d :: l) rest) :: k)) cs) (.a d l (fun x hx => hc x (List.mem_cons_of_mem _ hx)) (.top tmps [.code c] one)) (fun v => by simp [bf, Frame.at, G, stepG, stepG.exec, spine1]) (fun v => by simp [bf, Frame.at, G, stepG, stepG.exec, spine])⟩
    · exact ⟨g, .inl rfl, run, (Lift.both hF hb (fun _ => rfl) ht (fun tmps e => he ⟨tmps, e⟩) f2).mono fun _ _ => .a c l hc⟩
def pairS (hF : Fns P T) (hb : b.kind = .normal) (hres : ResOk P b.fn) (rest : Code) (k : List Item) (cs : List Frame) : Pair P T where
  R := TwS P T b rest k cs
  fin := Fin b
  form := tws_form
  both := bothS hF hb
  calm := fun h hf => fin_calm hf
  never := fun h v n h' v' hf hr => fin_never hb hres hf hr
  halt := (pairT hF hb hres k cs).halt
theorem tws_bf {tmps : Array Value} {g : Goroutine} (hg : TwS P T b rest k cs (G (bf b tmps kS) [c0]) g) : g = G (bf b tmps (.code rest :: k)) cs := by
  cases hg with
  | z ht => exact tw_bf ht
  | a c l hc ht =>
    generalize hh : G (bf b tmps kS) [c0] = h at ht
    cases ht with
    | top tmps' pre hp =>
      have e2 : kS = pre ++ .code (spine1 c l) :: kS := congrArg (fun g : Goroutine => g.frame.todo) hh
      have := congrArg List.length e2
      simp [kS] at this
    | up fr fs tmps' ops i rest pre hst hp =>
      have := congrArg (fun g : Goroutine => g.callers.length) hh
      simp [G] at this
    | ret tmps' pre => have := congrArg (fun g : Goroutine => g.frame.mode) hh; simp [G, bf, rf, Frame.at] at this
theorem tws_rf {tmps : Array Value} {todo : List Item} {g : Goroutine} (hg : TwS P T b rest k cs (G (rf b tmps todo) [c0]) g) : ∃ todo', g = G (rf b tmps todo') cs := by
  have key : ∀ {kL k : List Item}, Tw P T b kL k cs (G (rf b tmps todo) [c0]) g → ∃ todo', g = G (rf b tmps todo') cs := by
    intro kL k hg
    generalize hh : G (rf b tmps todo) [c0] = h at hg
    cases hg with
    | top tmps' pre hp => have := congrArg (fun g : Goroutine => g.frame.mode) hh; simp [G, bf, rf, Frame.at] at this
    | up fr fs tmps' ops i rest pre hst hp =>
      have := congrArg (fun g : Goroutine => g.callers.length) hh
      simp [G] at this
    | ret tmps' pre =>
      have e1 : tmps = tmps' := congrArg (fun g : Goroutine => g.frame.tmps) hh
      subst e1
      exact ⟨_, rfl⟩
  cases hg with
  | z ht => exact key ht
  | a c l hc ht => exact key ht
/-- What is asked where the statements are left. -/
def LeftS (P : Program) (B : Nat) (b : Frame) (k : List Item) (cs : List Frame) (Q : Goroutine → World → Prop) (e : Exit) (a : Act) (w : World) : Prop :=
  (e = .normal ∧ a.defers = [] ∧ K P B (G (b.at a k) cs) w Q) ∨ (e = .ret ∧ a.defers = [] ∧ ∀ todo, K P B (G (rf b a.tmps todo) cs) w Q)
theorem K.segs (hF : Fns P T) (hb : b.kind = .normal) (hres : ResOk P b.fn) {c : Code} {l : List Code} (hc : ∀ x ∈ c :: l, CodeT P T x) {tmps : Array Value}
    (hw : ∀ τ, (spine1 c l).wp P (LeftS P B b (.code rest :: k) cs Q) ⟨tmps, []⟩ (Lift.re v τ 0)) : K P B (G (b.at ⟨tmps, []⟩ (.code (spine (c :: l) rest) :: k)) cs) v Q := by
  have hts : TwS P T b rest k cs (G (bf b tmps ([] ++ .code (spine1 c l) :: kS)) [c0]) (G (bf b tmps ([] ++ .code (spine (c :: l) rest) :: k)) cs) := .a c l hc (.top tmps [] (by simp))
  refine K.pair hF (pairS hF hb hres rest k cs) hts fun τ => ?_
  obtain ⟨e, a', w', hq, harr⟩ := hw τ b kS [c0]
  obtain ⟨tm, ds⟩ := a'
  rcases hq with ⟨rfl, hd, hk⟩ | ⟨rfl, hd, hk⟩
  · have hd' : ds = [] := hd
    subst hd'
    obtain ⟨n, hn⟩ := harr
    refine ⟨n, G (bf b tm kS) [c0], w', hn, .inl ⟨tm, rfl⟩, fun g' hg' => ?_⟩
    rw [tws_bf hg']
    exact hk
  · have hd' : ds = [] := hd
    subst hd'
    obtain ⟨todo, n, hn⟩ := harr
    refine ⟨n, G (rf b tm todo) [c0], w', hn, .inr ⟨tm, todo, rfl⟩, fun g' hg' => ?_⟩
    obtain ⟨pre, rfl⟩ := tws_rf hg'
    exact hk pre
end
end Go.Proofs.Ytadngncbbbbapaa.Lift
