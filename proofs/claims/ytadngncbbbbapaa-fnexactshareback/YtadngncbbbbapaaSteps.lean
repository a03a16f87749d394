/-
  A goroutine all of whose frames hold tame code: its step, whatever lies below its frames, in two worlds that part in blocks that nobody may touch, on two tapes.
-/
import Derived.Test.YtadngncbbbbapaaTapes
import Derived.Conc.Own
namespace Go.Proofs.Ytadngncbbbbapaa.Lift
open Go.Conc
set_option linter.unusedVariables false
set_option linter.unusedSectionVars false
set_option linter.unusedSimpArgs false

section
variable (P : Program) (T : FuncId → Prop)
def NextOk : Next → Prop
  | .value _ | .skip => True
  | .enter f _ => T f
  | _ => False
def OpT (o : Oper) : Prop := (∀ c, o.op ≠ .defer c) ∧ ∀ fr : Frame, Tame P (NextOk T) (execOp fr.eval o)
def CodeT : Code → Prop
  | .skip | .label _ | .ret | .exit _ | .refuse _ => True
  | .region _ ops _ => ∀ o ∈ ops, OpT P T o
  | .seq a b | .cond _ a b => CodeT a ∧ CodeT b
  | .block _ c | .loop c => CodeT c
  | _ => False
def ItemT : Item → Prop
  | .code c | .inLoop c => CodeT P T c
  | .inBlock _ => True
  | .inRegion ops _ => ∀ o ∈ ops, OpT P T o
  | _ => False
def ResOk (f : FuncId) : Prop := ∃ fn, P.funcs[f]? = some fn ∧ ∀ tmps, ∃ x, results fn tmps = .pure x
structure FrT (fr : Frame) : Prop where
  kind : fr.kind = .normal
  defers : fr.defers = []
  round : fr.roundOf = none
  todo : ∀ x ∈ fr.todo, ItemT P T x
  mode : fr.mode = .run ∨ fr.mode = .returning
  fn : ResOk P fr.fn
/-- What is asked of the functions. -/
structure Fns : Prop where
  body : ∀ f, T f → ∃ fn c, P.funcs[f]? = some fn ∧ fn.body = some c ∧ CodeT P T c ∧ ∀ tmps, ∃ x, results fn tmps = .pure x
  ahead : P.follows .staticDataAhead = true
  none : ∀ g, P.stepOf g = none
end

variable {P : Program} {T : FuncId → Prop}
theorem exit_sub {id : Nat} : ∀ {k k' : List Item}, exitTo id k = some k' → ∀ x ∈ k', x ∈ k
  | [], k', h => by simp [exitTo] at h
  | y :: k, k', h => by
    cases y with
    | inBlock j =>
      simp only [exitTo] at h
      split at h
      · cases h; exact fun x hx => List.mem_cons_of_mem _ hx
      · exact fun x hx => List.mem_cons_of_mem _ (exit_sub h x hx)
    | _ => simp only [exitTo] at h; exact fun x hx => List.mem_cons_of_mem _ (exit_sub h x hx)
theorem finish_tame {fr : Frame} (h : FrT P T fr) (v : Value) (hr : fr.mode = .run) : FrT P T (fr.finish v) := by
  obtain ⟨fn, tmps, todo, defers, mode, kind, round⟩ := fr
  unfold Frame.finish
  cases todo with
  | nil => exact h
  | cons x k =>
    cases x with
    | inRegion ops l =>
      cases l with
      | nil => exact h
      | cons i rest => exact ⟨h.kind, h.defers, h.round, fun x hx => by
          rcases List.mem_cons.1 hx with rfl | hx
          · exact h.todo (.inRegion ops (i :: rest)) (by simp)
          · exact h.todo x (by simp [hx]), h.mode, h.fn⟩
    | code c => exact h
    | inBlock j => exact h
    | inLoop c => exact h
    | _ => exact False.elim (h.todo _ List.mem_cons_self)
theorem enter_tame (hF : Fns P T) {f : FuncId} (hf : T f) (args : Array Value) : FrT P T (Frame.enter P f args .normal) := by
  obtain ⟨fn, c, h1, h2, h3, h4⟩ := hF.body f hf
  refine ⟨rfl, rfl, rfl, fun x hx => ?_, .inl rfl, ⟨fn, h1, h4⟩⟩
  simp only [Frame.enter, h1, Option.bind_some, h2, Option.getD_some, List.mem_singleton] at hx
  subst hx
  exact h3

/-- The form of a step. -/
inductive Form (P : Program) (T : FuncId → Prop) (fr : Frame) (fs : List Frame) : Prop
  | ctl (fr' : Frame) : FrT P T fr' → (∀ tl v, stepG P true (G fr (fs ++ tl)) v = .go (G fr' (fs ++ tl)) v #[]) → Form P T fr fs
  | draw (q : Question) (F : Nat → Frame) : (∀ t, FrT P T (F t)) → q.forced = false → (∀ t, q.cut t = t) → (∀ tl v, stepG P true (G fr (fs ++ tl)) v = .go (G (F (v.tape v.drawn q)) (fs ++ tl)) { v with drawn := v.drawn + 1 } #[]) → Form P T fr fs
  | op (e : Sem Next) : Tame P (NextOk T) e → fr.mode = .run → (∀ d w r s, fr.todo ≠ .call d w r s :: []) → (∀ tl v, stepG P true (G fr (fs ++ tl)) v = stepG.apply P true fr (fs ++ tl) none e v) → Form P T fr fs
  | back (c : Frame) (fs' : List Frame) (x : Value) : fs = c :: fs' → (∀ tl v, stepG P true (G fr (fs ++ tl)) v = .go (G (c.finish x) (fs' ++ tl)) v #[]) → Form P T fr fs
  | base : fs = [] → fr.mode = .returning → Form P T fr fs
  | lost : (∀ tl v, ∃ o u, stepG P true (G fr (fs ++ tl)) v = .ended o u #[]) → Form P T fr fs

theorem form (hF : Fns P T) {fr : Frame} {fs : List Frame} (h : FrT P T fr) : Form P T fr fs := by
  obtain ⟨fn, tmps, todo, defers, mode, kind, round⟩ := fr
  have hk : kind = .normal := h.kind
  have hd : defers = [] := h.defers
  have hr : round = none := h.round
  subst hk hd hr
  rcases h.mode with hm | hm
  · have hm' : mode = .run := hm
    subst hm'
    have tail : ∀ {x : Item} {k : List Item}, todo = x :: k → ∀ y ∈ k, ItemT P T y := fun e y hy => h.todo y (by show y ∈ todo; rw [e]; simp [hy])
    have mk : ∀ {l : List Item}, (∀ y ∈ l, ItemT P T y) → FrT P T ⟨fn, tmps, l, [], .run, .normal, none⟩ := fun hl => ⟨rfl, rfl, rfl, hl, .inl rfl, h.fn⟩
    cases todo with
    | nil => exact .ctl ⟨fn, tmps, [], [], .returning, .normal, none⟩ ⟨rfl, rfl, rfl, h.todo, .inr rfl, h.fn⟩ fun tl v => by simp [G, stepG, stepG.exec]
    | cons x k =>
      have hx := h.todo x List.mem_cons_self
      have ht := tail rfl
      cases x with
      | inBlock j => exact .ctl _ (mk ht) fun tl v => by simp [G, stepG, stepG.exec]
      | inLoop c => exact .ctl _ (mk (l := .code c :: .inLoop c :: k) fun y hy => by
          simp only [List.mem_cons] at hy
          rcases hy with rfl | rfl | hy
          · exact hx
          · exact hx
          · exact ht y hy) fun tl v => by simp [G, stepG, stepG.exec]
      | inRegion ops l =>
        cases l with
        | nil => exact .ctl _ (mk ht) fun tl v => by simp [G, stepG, stepG.exec]
        | cons i rest =>
          cases hw : ((ops[i]?).map (Region.wanted · (yielded ops tmps))).getD false with
          | false => exact .ctl _ (finish_tame h undef rfl) fun tl v => by simp [G, stepG, stepG.exec, hw]
          | true =>
            cases ho : ops[i]? with
            | none => simp [ho] at hw
            | some o =>
              have hop := hx o (Array.mem_of_getElem? ho)
              refine .op (execOp (Frame.eval ⟨fn, tmps, .inRegion ops (i :: rest) :: k, [], .run, .normal, none⟩) o) (hop.2 _) rfl (by simp) fun tl v => ?_
              have hw' : Region.wanted o (yielded ops tmps) = true := by simpa [ho] using hw
              simp only [G, stepG, stepG.exec, ho, Option.map_some, Option.getD_some, hw', if_true, stepG.oper, Frame.oper?]
      | code c =>
        cases c with
        | skip => exact .ctl _ (mk ht) fun tl v => by simp [G, stepG, stepG.exec]
        | label l => exact .ctl _ (mk ht) fun tl v => by simp [G, stepG, stepG.exec]
        | ret => exact .ctl ⟨fn, tmps, .code .ret :: k, [], .returning, .normal, none⟩ ⟨rfl, rfl, rfl, h.todo, .inr rfl, h.fn⟩ fun tl v => by simp [G, stepG, stepG.exec]
        | region id ops dr =>
          cases dr with
          | false => exact .ctl _ (mk (l := .inRegion ops (List.range ops.size) :: k) fun y hy => by
              simp only [List.mem_cons] at hy
              rcases hy with rfl | hy
              · exact hx
              · exact ht y hy) fun tl v => by simp [G, stepG, stepG.exec]
          | true => exact .draw (.order fn id) (fun t => ⟨fn, tmps, .inRegion ops (Region.schedule (P.follows .mixedOrders) ops t) :: k, [], .run, .normal, none⟩) (fun t => mk fun y hy => by
              simp only [List.mem_cons] at hy
              rcases hy with rfl | hy
              · exact hx
              · exact ht y hy) rfl (fun _ => rfl) fun tl v => by simp [G, stepG, stepG.exec, choose, Sem.run, Question.forced, Question.cut]
        | seq a b => exact .ctl _ (mk (l := .code a :: .code b :: k) fun y hy => by
            simp only [List.mem_cons] at hy
            rcases hy with rfl | rfl | hy
            · exact hx.1
            · exact hx.2
            · exact ht y hy) fun tl v => by simp [G, stepG, stepG.exec]
        | cond c a b =>
          cases hc : Frame.eval ⟨fn, tmps, .code (.cond c a b) :: k, [], .run, .normal, none⟩ c with
          | bool t => exact .ctl _ (mk (l := .code (if t then a else b) :: k) fun y hy => by
              simp only [List.mem_cons] at hy
              rcases hy with rfl | hy
              · cases t
                · exact hx.2
                · exact hx.1
              · exact ht y hy) fun tl v => by simp [G, stepG, stepG.exec, hc]
          | _ => exact .lost fun tl v => by simp [G, stepG, stepG.exec, hc]
        | block id c => exact .ctl _ (mk (l := .code c :: .inBlock id :: k) fun y hy => by
            simp only [List.mem_cons] at hy
            rcases hy with rfl | rfl | hy
            · exact hx
            · trivial
            · exact ht y hy) fun tl v => by simp [G, stepG, stepG.exec]
        | loop c => exact .ctl _ (mk (l := .code c :: .inLoop c :: k) fun y hy => by
            simp only [List.mem_cons] at hy
            rcases hy with rfl | rfl | hy
            · exact hx
            · exact hx
            · exact ht y hy) fun tl v => by simp [G, stepG, stepG.exec]
        | exit id =>
          cases he : exitTo id k with
          | some k' => exact .ctl _ (mk (l := k') fun y hy => ht y (exit_sub he y hy)) fun tl v => by simp [G, stepG, stepG.exec, he]
          | none => exact .lost fun tl v => by simp [G, stepG, stepG.exec, he]
        | refuse why => exact .lost fun tl v => by simp [G, stepG, stepG.exec]
        | _ => exact hx.elim
      | _ => exact False.elim hx
  · have hm' : mode = .returning := hm
    subst hm'
    cases fs with
    | nil => exact .base rfl rfl
    | cons c fs' =>
      obtain ⟨f, h1, h4⟩ := h.fn
      obtain ⟨x, hx⟩ := h4 tmps
      refine .back c fs' x rfl fun tl v => ?_
      simp only [G, stepG, unwind, h1, hx, Sem.runT, List.cons_append, doReturn]
      simp [GStep.after, seen]
end Go.Proofs.Ytadngncbbbbapaa.Lift
