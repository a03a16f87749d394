/-
  The first operations of a region, and what comes behind them in it.
-/
import Derived.Test.YtadngncbbbbapaaKay
namespace Go.Proofs.Ytadngncbbbbapaa.Lift
open Go.Conc Go.Proofs.Ytadngncbbbbapaa.Crew
set_option linter.unusedVariables false
set_option linter.unusedSectionVars false
set_option linter.unusedSimpArgs false
variable {P : Program} {B : Nat} {T : FuncId → Prop} {a a' : Goroutine} {v : World} {Q Q' : Goroutine → World → Prop}
section
variable (P : Program) (T : FuncId → Prop) (b : Frame) (ops : Array Oper) (rest : List Nat) (k : List Item) (cs : List Frame)
def OkI (l : List Nat) : Prop := ∀ i ∈ l, ∀ o, ops[i]? = some o → OpT P T o
inductive TwL : Goroutine → Goroutine → Prop
  | top (tmps : Array Value) (l : List Nat) : OkI P T ops l → TwL (G (bf b tmps (.inRegion ops l :: kS)) [c0]) (G (bf b tmps (.inRegion ops (l ++ rest) :: k)) cs)
  | up (fr : Frame) (fs : List Frame) (tmps : Array Value) (i : Nat) (l : List Nat) : OkI P T ops l → St P T fr fs → TwL (G fr (fs ++ (bf b tmps (.inRegion ops (i :: l) :: kS) :: [c0]))) (G fr (fs ++ (bf b tmps (.inRegion ops (i :: (l ++ rest)) :: k) :: cs)))
def FinL (g : Goroutine) : Prop := ∃ tmps, g = G (bf b tmps (.inRegion ops [] :: kS)) [c0]
end
section
variable {b : Frame} {ops : Array Oper} {rest : List Nat} {k : List Item} {cs : List Frame}
theorem stepL {tmps : Array Value} {i : Nat} (hops : ∀ o, ops[i]? = some o → OpT P T o) : (∃ tmps', ∀ l k tl v, stepG P true (G (bf b tmps (.inRegion ops (i :: l) :: k)) tl) v = .go (G (bf b tmps' (.inRegion ops l :: k)) tl) v #[]) ∨
    ∃ e, Tame P (NextOk T) e ∧ ∀ l k tl v, stepG P true (G (bf b tmps (.inRegion ops (i :: l) :: k)) tl) v = stepG.apply P true (bf b tmps (.inRegion ops (i :: l) :: k)) tl none e v := by
  cases hw : ((ops[i]?).map (Region.wanted · (yielded ops tmps))).getD false with
  | false => exact .inl ⟨match (ops[i]?).bind (·.dst) with | some d => tmps.setIfInBounds d undef | none => tmps, fun l k tl v => by simp [bf, Frame.at, G, stepG, stepG.exec, hw, Frame.finish]; rfl⟩
  | true =>
    cases ho : ops[i]? with
    | none => simp [ho] at hw
    | some o =>
      have hop := hops o ho
      refine .inr ⟨execOp (Act.eval ⟨tmps, []⟩) o, by have := hop.2 (b.at ⟨tmps, []⟩ []); rwa [Frame.eval_at'] at this, fun l k tl v => ?_⟩
      have hw' : Region.wanted o (yielded ops tmps) = true := by simpa [ho] using hw
      have he := Frame.eval_at' b ⟨tmps, []⟩ (.inRegion ops (i :: l) :: k)
      simp only [Frame.at] at he
      simp only [bf, Frame.at, G, stepG, stepG.exec, ho, Option.map_some, Option.getD_some, hw', if_true, stepG.oper, Frame.oper?, he]
theorem bothL (hF : Fns P T) (hb : b.kind = .normal) {h g : Goroutine} (ht : TwL P T b ops rest k cs h g) (hf : ¬ FinL b ops h) : Both P T (TwL P T b ops rest k cs) h g := by
  cases ht with
  | top tmps l hl =>
    cases l with
    | nil => exact absurd ⟨tmps, rfl⟩ hf
    | cons i l =>
      have hl' : OkI P T ops l := fun j hj => hl j (List.mem_cons_of_mem _ hj)
      rcases stepL (P := P) (T := T) (b := b) (tmps := tmps) (i := i) (hl i List.mem_cons_self) with ⟨tmps', hst⟩ | ⟨e, he, hst⟩
      · exact .ctl _ _ (.top tmps' l hl') (hst _ _ _) (hst _ _ _)
      · refine .op e (bf b tmps (.inRegion ops (i :: l) :: kS)) (bf b tmps (.inRegion ops (i :: (l ++ rest)) :: k)) [c0] cs he (plain_bf hb) (plain_bf hb) rfl (fun n hn => ?_) (fun x => .inl ⟨_, [], [{ v := x, recovered := false }], rfl, rfl, rfl, by simp⟩) (hst l kS [c0]) (hst (l ++ rest) k cs)
        cases n with
        | value x => simp only [after, finish_bf]; exact .top _ l hl'
        | skip => simp only [after, finish_bf]; exact .top _ l hl'
        | enter f a => exact .up _ [] tmps i l hl' ⟨enter_tame hF hn a, by simp⟩
        | _ => exact hn.elim
  | up fr fs tmps i l hl' hst =>
    cases form (fs := fs) hF hst.top with
    | ctl fr' hfr' heq => exact .ctl _ _ (.up fr' fs tmps i l hl' ⟨hfr', hst.up⟩) (heq _) (heq _)
    | draw q F hfr' _ _ heq => exact .draw q _ _ (fun t => .up (F t) fs tmps i l hl' ⟨hfr' t, hst.up⟩) (heq _) (heq _)
    | op e he hrun _ heq =>
      refine .op e _ _ _ _ he hst.top.plain hst.top.plain rfl (fun n hn => ?_) (fun x => .inl ⟨fr.raise [{ v := x, recovered := false }], fs ++ [bf b tmps (.inRegion ops (i :: l) :: kS)], [{ v := x, recovered := false }], by simp, by unfold Frame.raise; rw [hrun], by unfold Frame.raise; rw [hrun]; exact hst.top.defers, fun f hf' => ?_⟩) (heq _) (heq _)
      · obtain ⟨fr', fs', hst', haf⟩ := after_st hF hst hrun hn
        rw [haf, haf]
        exact .up fr' fs' tmps i l hl' hst'
      · rcases List.mem_append.1 hf' with h1 | h1
        · exact (hst.up f h1).1.defers
        · simp only [List.mem_singleton] at h1; subst h1; rfl
    | back c fs' x hfs heq =>
      subst hfs
      have hc := hst.up c List.mem_cons_self
      exact .ctl _ _ (.up _ fs' tmps i l hl' ⟨finish_tame hc.1 x hc.2, fun f hf' => hst.up f (List.mem_cons_of_mem _ hf')⟩) (heq _) (heq _)
    | base hfs hm =>
      subst hfs
      obtain ⟨fn, h1, h4⟩ := hst.top.fn
      obtain ⟨x, hx⟩ := h4 fr.tmps
      have ret : ∀ c tl v, stepG P true (G fr (c :: tl)) v = .go (G (c.finish x) tl) v #[] := fun c tl v => by
        simp only [G, stepG, hm, unwind, hst.top.defers, h1, hx, Sem.runT, doReturn, hst.top.kind]
        simp [GStep.after, seen]
      refine .ctl (G (bf b (Act.put ⟨tmps, []⟩ ((ops[i]?).bind (·.dst)) x).tmps (.inRegion ops l :: kS)) [c0]) (G (bf b (Act.put ⟨tmps, []⟩ ((ops[i]?).bind (·.dst)) x).tmps (.inRegion ops (l ++ rest) :: k)) cs) (.top _ l hl') (fun v => ?_) (fun v => ?_)
      · rw [List.nil_append, ret, finish_bf]
      · rw [List.nil_append, ret, finish_bf]
    | lost heq => exact .lost (heq _)
theorem finL_step {tmps : Array Value} {v : World} : stepG P true (G (bf b tmps (.inRegion ops [] :: kS)) [c0]) v = .go (G (bf b tmps kS) [c0]) v #[] := by simp [bf, Frame.at, G, stepG, stepG.exec]
theorem finL_end {tmps : Array Value} {v : World} : ∃ o u es, stepG P true (G (bf b tmps kS) [c0]) v = .ended o u es := by simp [bf, kS, Frame.at, G, stepG, stepG.exec]
def pairL (hF : Fns P T) (hb : b.kind = .normal) (ops : Array Oper) (rest : List Nat) (k : List Item) (cs : List Frame) : Pair P T where
  R := TwL P T b ops rest k cs
  fin := FinL b ops
  form := fun ht => by cases ht <;> exact ⟨⟨_, _, rfl⟩, _, _, rfl⟩
  both := fun {h g} hR hf => ⟨g, .inl rfl, by cases hR <;> rfl, bothL hF hb hR hf⟩
  calm := fun h ⟨tmps, he⟩ => by
    subst he
    rintro (⟨fr, fs, chain, he, hm, _⟩ | ⟨chain, he⟩)
    · have := congrArg (fun g : Goroutine => g.frame.mode) he
      simp only [G, bf, Frame.at, hm] at this; cases this
    · have := congrArg Goroutine.callers he; cases this
  never := fun h v n h' v' ⟨tmps, he⟩ hr => by
    subst he
    simp only [runN, step_go finL_step] at hr
    cases n with
    | zero =>
      simp only [runN, Stepped.next.injEq] at hr
      have := congrArg Machine.gs hr
      simp only [loneOf] at this
      have h2 := congrArg (fun a : Array Goroutine => (a[0]?).map (·.frame.todo)) this
      rintro ⟨tmps', rfl⟩
      simp [G, bf, kS, Frame.at] at h2
    | succ n =>
      obtain ⟨o, u, es, he⟩ := finL_end (P := P) (b := b) (tmps := tmps) (v := v)
      simp only [runN, step_end he] at hr
      cases hr
  halt := fun {h v Stop} ⟨tmps, he⟩ hS ht => by
    subst he
    refine one_tree (fun v => finL_step) (fun v => finL_end) (fun v hs => ?_) ht
    obtain ⟨t', he'⟩ := hS _ _ hs
    have := congrArg (fun g : Goroutine => g.frame.todo) he'
    simp [G, bf, kS, Frame.at] at this
theorem twl_fin {tmps : Array Value} {g : Goroutine} (hg : TwL P T b ops rest k cs (G (bf b tmps (.inRegion ops [] :: kS)) [c0]) g) : g = G (bf b tmps (.inRegion ops rest :: k)) cs := by
  generalize hh : G (bf b tmps (.inRegion ops [] :: kS)) [c0] = h at hg
  cases hg with
  | top tmps' l _ =>
    have e1 : tmps = tmps' := congrArg (fun g : Goroutine => g.frame.tmps) hh
    have e2 := congrArg (fun g : Goroutine => g.frame.todo) hh
    simp [G, bf, kS, Frame.at] at e2
    subst e1 e2
    rfl
  | up fr fs tmps' i l _ hst =>
    have := congrArg (fun g : Goroutine => g.callers.length) hh
    simp [G] at this

/-- The run of the first operations, alone: to where none of them is left. -/
theorem ops_run {P : Program} {ops : Array Oper} {Q : Act → World → Prop} (l : List Nat) : ∀ (a : Act) (w : World), wpOps P ops (fun e a w => e = .normal ∧ Q a w) l a w → ∀ (b : Frame) (k : List Item) (cs : List Frame),
    ∃ a' w', Q a' w' ∧ Steps P (lone (b.at a (.inRegion ops l :: k)) cs w) (lone (b.at a' (.inRegion ops [] :: k)) cs w') := by
  induction l with
  | nil => exact fun a w h b k cs => ⟨a, w, h.2, .refl _ _⟩
  | cons i rest ih =>
    intro a w h b k cs
    simp only [wpOps] at h
    cases ho : ops[i]? with
    | none =>
      simp only [ho] at h
      obtain ⟨a', w', hq, harr⟩ := ih a w h b k cs
      have hs := step_op_skip (P := P) (b := b) (a := a) (k := k) (cs := cs) (w := w) (ops := ops) (i := i) (rest := rest) (by simp [ho])
      simp only [ho, Option.bind_none, Act.put] at hs
      exact ⟨a', w', hq, .trans (.one hs) harr⟩
    | some o =>
      simp only [ho] at h
      by_cases hw : Region.wanted o (yielded ops a.tmps) = true
      · simp only [hw, if_true] at h
        rcases h with h | ⟨hasks, a₀, w₀, hq⟩
        case inr => cases hq.1
        simp only [Oper.wp, Oper.upon] at h
        have hg := stepG_op (P := P) (b := b) (k := k) (cs := cs) (w := w) (rest := rest) ho hw
        have hfin : ∀ v, (b.at a (.inRegion ops (i :: rest) :: k)).finish v = b.at (a.put o.dst v) (.inRegion ops rest :: k) := by
          intro v; rw [Frame.finish_at, ho]; rfl
        split at h
        · rename_i v w' hr
          obtain ⟨a', w'', hq, harr⟩ := ih _ _ h b k cs
          refine ⟨a', w'', hq, .trans (.one (step_lone_go ?_)) harr⟩
          rw [hg, ← hfin]; simp [stepG.apply, hr]
        · rename_i w' hr
          obtain ⟨a', w'', hq, harr⟩ := ih _ _ h b k cs
          refine ⟨a', w'', hq, .trans (.one (step_lone_go ?_)) harr⟩
          rw [hg, ← hfin]; simp [stepG.apply, hr]
        · rename_i d w' hr
          obtain ⟨a', w'', hq, harr⟩ := ih _ _ h b k cs
          refine ⟨a', w'', hq, .trans (.one (step_lone_go ?_)) harr⟩
          have : ({ b.at a (.inRegion ops (i :: rest) :: k) with defers := d :: a.defers } : Frame).finish undef =
              b.at ({ a with defers := d :: a.defers }.put o.dst undef) (.inRegion ops rest :: k) := by
            have := Frame.finish_at b { a with defers := d :: a.defers } ops i rest k undef
            rw [ho] at this; exact this
          rw [hg]; simp only [stepG.apply, Sem.runT_eq, hr, GStep.bare_after]
          exact congrArg (fun fr => GStep.go { frame := fr, callers := cs, status := .running, dying := none } w') this
        · rename_i f args w' hr
          obtain ⟨e, w'', fr, hR, hsteps, _, hleave⟩ := h (b.at a (.inRegion ops (i :: rest) :: k) :: cs)
          have henter : step P (lone (b.at a (.inRegion ops (i :: rest) :: k)) cs w) =
              .next (lone (Frame.enter P f args .normal) (b.at a (.inRegion ops (i :: rest) :: k) :: cs) w') :=
            step_lone_go (by rw [hg]; simp [stepG.apply, hr, Frame.at])
          cases e with
          | returned v =>
            obtain ⟨a', w₃, hq, harr⟩ := ih _ _ hR b k cs
            refine ⟨a', w₃, hq, .trans (.head henter (hsteps.trans (.one ?_))) harr⟩
            rw [← hfin]; exact step_leave_returned hleave
          | panicked chain => cases hR.1
          | outgrown =>
            obtain ⟨a₀, w₀, hq⟩ := hR
            cases hq.1
        · rename_i row args w' hr
          obtain ⟨v, w'', hR, hsteps⟩ := h (b.at a (.inRegion ops (i :: rest) :: k)) cs
          have henter : step P (lone (b.at a (.inRegion ops (i :: rest) :: k)) cs w) =
              .next (lone (Frame.ofRow P row args .normal) (b.at a (.inRegion ops (i :: rest) :: k) :: cs) w') :=
            step_lone_go (by rw [hg]; simp [stepG.apply, hr, Frame.at])
          obtain ⟨a', w₃, hq, harr⟩ := ih _ _ hR b k cs
          refine ⟨a', w₃, hq, .trans (.head henter ?_) harr⟩
          rw [← hfin]; exact hsteps
        · cases h.1
        · exact h.elim
      · simp only [hw, if_false, Bool.false_eq_true] at h
        obtain ⟨a', w', hq, harr⟩ := ih _ _ h b k cs
        have hs := step_op_skip (P := P) (b := b) (a := a) (k := k) (cs := cs) (w := w) (ops := ops) (i := i) (rest := rest)
          (by simp [ho]; simpa using hw)
        simp only [ho, Option.bind_some] at hs
        exact ⟨a', w', hq, .trans (.one hs) harr⟩

/-- The first operations of a region. -/
theorem K.begin (hF : Fns P T) (hb : b.kind = .normal) {l : List Nat} {tmps : Array Value} (hops : OkI P T ops l)
    (hw : ∀ τ, wpOps P ops (fun e a w => e = .normal ∧ a.defers = [] ∧ K P B (G (b.at a (.inRegion ops rest :: k)) cs) w Q) l ⟨tmps, []⟩ (Lift.re v τ 0)) : K P B (G (b.at ⟨tmps, []⟩ (.inRegion ops (l ++ rest) :: k)) cs) v Q := by
  refine K.pair hF (pairL hF hb ops rest k cs) (.top tmps l hops) fun τ => ?_
  obtain ⟨a', w', ⟨hd, hk⟩, n, hn⟩ := ops_run l _ _ (hw τ) b kS [c0]
  obtain ⟨tm, ds⟩ := a'
  have hd' : ds = [] := hd
  subst hd'
  refine ⟨n, G (bf b tm (.inRegion ops [] :: kS)) [c0], w', hn, ⟨tm, rfl⟩, fun g' hg' => ?_⟩
  rw [twl_fin hg']
  exact hk
end
end Go.Proofs.Ytadngncbbbbapaa.Lift
