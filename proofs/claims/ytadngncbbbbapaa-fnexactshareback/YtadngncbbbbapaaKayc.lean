/-
  Calls in company: who is called is given as what it does to the frame behind it.
-/
import Derived.Test.YtadngncbbbbapaaKayl
namespace Go.Proofs.Ytadngncbbbbapaa.Lift
open Go.Conc Go.Proofs.Ytadngncbbbbapaa.Crew
set_option linter.unusedVariables false
set_option linter.unusedSectionVars false
set_option linter.unusedSimpArgs false
variable {P : Program} {B : Nat} {T : FuncId → Prop} {a a' : Goroutine} {v : World} {Q Q' : Goroutine → World → Prop} {b : Frame} {k : List Item} {cs : List Frame} {tmps : Array Value}

theorem K.seq {x y : Code} (h : K P B (G (b.at ⟨tmps, []⟩ (.code x :: .code y :: k)) cs) v Q) : K P B (G (b.at ⟨tmps, []⟩ (.code (.seq x y) :: k)) cs) v Q :=
  K.idle rfl (fun w => by simp [Frame.at, G, stepG, stepG.exec]) h
theorem K.skip (h : K P B (G (b.at ⟨tmps, []⟩ k) cs) v Q) : K P B (G (b.at ⟨tmps, []⟩ (.code .skip :: k)) cs) v Q :=
  K.idle rfl (fun w => by simp [Frame.at, G, stepG, stepG.exec]) h
theorem K.label {l : Nat} (h : K P B (G (b.at ⟨tmps, []⟩ k) cs) v Q) : K P B (G (b.at ⟨tmps, []⟩ (.code (.label l) :: k)) cs) v Q :=
  K.idle rfl (fun w => by simp [Frame.at, G, stepG, stepG.exec]) h
theorem K.region {id : Nat} {ops : Array Oper} (h : K P B (G (b.at ⟨tmps, []⟩ (.inRegion ops (List.range ops.size) :: k)) cs) v Q) : K P B (G (b.at ⟨tmps, []⟩ (.code (.region id ops false) :: k)) cs) v Q :=
  K.idle rfl (fun w => by simp [Frame.at, G, stepG, stepG.exec]) h
theorem K.regionEnd {ops : Array Oper} (h : K P B (G (b.at ⟨tmps, []⟩ k) cs) v Q) : K P B (G (b.at ⟨tmps, []⟩ (.inRegion ops [] :: k)) cs) v Q :=
  K.idle rfl (fun w => by simp [Frame.at, G, stepG, stepG.exec]) h
theorem K.cond {c : Operand} {x y : Code} (t : Bool) (hc : Act.eval ⟨tmps, []⟩ c = .bool t) (h : K P B (G (b.at ⟨tmps, []⟩ (.code (if t then x else y) :: k)) cs) v Q) : K P B (G (b.at ⟨tmps, []⟩ (.code (.cond c x y) :: k)) cs) v Q :=
  K.idle rfl (fun w => by
    have he := Frame.eval_at b ⟨tmps, []⟩ (.code (.cond c x y) :: k) c
    simp only [Frame.at] at he
    simp [Frame.at, G, stepG, stepG.exec, he, hc]) h
theorem K.block {id : Nat} {x : Code} (h : K P B (G (b.at ⟨tmps, []⟩ (.code x :: .inBlock id :: k)) cs) v Q) : K P B (G (b.at ⟨tmps, []⟩ (.code (.block id x) :: k)) cs) v Q :=
  K.idle rfl (fun w => by simp [Frame.at, G, stepG, stepG.exec]) h
theorem K.blockEnd {id : Nat} (h : K P B (G (b.at ⟨tmps, []⟩ k) cs) v Q) : K P B (G (b.at ⟨tmps, []⟩ (.inBlock id :: k)) cs) v Q :=
  K.idle rfl (fun w => by simp [Frame.at, G, stepG, stepG.exec]) h
theorem K.loop {x : Code} (h : K P B (G (b.at ⟨tmps, []⟩ (.code x :: .inLoop x :: k)) cs) v Q) : K P B (G (b.at ⟨tmps, []⟩ (.code (.loop x) :: k)) cs) v Q :=
  K.idle rfl (fun w => by simp [Frame.at, G, stepG, stepG.exec]) h
theorem K.round {x : Code} (h : K P B (G (b.at ⟨tmps, []⟩ (.code x :: .inLoop x :: k)) cs) v Q) : K P B (G (b.at ⟨tmps, []⟩ (.inLoop x :: k)) cs) v Q :=
  K.idle rfl (fun w => by simp [Frame.at, G, stepG, stepG.exec]) h
theorem K.exit {id : Nat} {k' : List Item} (he : exitTo id k = some k') (h : K P B (G (b.at ⟨tmps, []⟩ k') cs) v Q) : K P B (G (b.at ⟨tmps, []⟩ (.code (.exit id) :: k)) cs) v Q :=
  K.idle rfl (fun w => by simp [Frame.at, G, stepG, stepG.exec, he]) h
theorem K.ret (h : K P B (G (rf b tmps (.code .ret :: k)) cs) v Q) : K P B (G (b.at ⟨tmps, []⟩ (.code .ret :: k)) cs) v Q :=
  K.idle rfl (fun w => by simp [rf, Frame.at, G, stepG, stepG.exec]) h
theorem K.fall (h : K P B (G (rf b tmps []) cs) v Q) : K P B (G (b.at ⟨tmps, []⟩ []) cs) v Q :=
  K.idle rfl (fun w => by simp [rf, Frame.at, G, stepG, stepG.exec]) h
/-- The frame is left: the caller goes on. -/
theorem K.back (hb : b.kind = .normal) {fn : Func} (hfn : P.funcs[b.fn]? = some fn) {x : Value} (hx : results fn tmps = .pure x) {todo : List Item} {c : Frame} (h : K P B (G (c.finish x) cs) v Q) : K P B (G (rf b tmps todo) (c :: cs)) v Q :=
  K.idle rfl (fun w => by
    simp only [rf, Frame.at, G, stepG, unwind, hfn, hx, Sem.runT, doReturn, hb]
    simp [GStep.after, seen]) h

/-- A function in company. -/
def KCalls (P : Program) (B : Nat) (f : FuncId) (args : Array Value) (v : World) (R : Value → World → Prop) : Prop :=
  ∀ (c : Frame) (cs : List Frame) (Q : Goroutine → World → Prop), (∀ x v', R x v' → K P B (G (c.finish x) cs) v' Q) → K P B (G (Frame.enter P f args .normal) (c :: cs)) v Q
theorem KCalls.mono {f : FuncId} {args : Array Value} {R R' : Value → World → Prop} (h : KCalls P B f args v R) (hr : ∀ x v', R x v' → R' x v') : KCalls P B f args v R' :=
  fun c cs Q hq => h c cs Q fun x v' hx => hq x v' (hr x v' hx)
/-- An operation that calls. -/
theorem K.call (hb : b.kind = .normal) {ops : Array Oper} {i : Nat} {rest : List Nat} {o : Oper} (ho : ops[i]? = some o) (hw : Region.wanted o (yielded ops tmps) = true) {f : FuncId} {args : Array Value}
    (he : ∀ w, (execOp (Act.eval ⟨tmps, []⟩) o).runT P w #[] = (.ok (.enter f args) w, #[])) {R : Value → World → Prop} (hc : KCalls P B f args v R)
    (h : ∀ x v', R x v' → K P B (G (b.at (Act.put ⟨tmps, []⟩ o.dst x) (.inRegion ops rest :: k)) cs) v' Q) : K P B (G (b.at ⟨tmps, []⟩ (.inRegion ops (i :: rest) :: k)) cs) v Q := by
  refine K.idle (a' := G (Frame.enter P f args .normal) (b.at ⟨tmps, []⟩ (.inRegion ops (i :: rest) :: k) :: cs)) rfl (fun w => ?_) (hc _ _ _ fun x v' hx => ?_)
  · have := stepG_op (P := P) (b := b) (a := ⟨tmps, []⟩) (k := k) (cs := cs) (w := w) (rest := rest) ho hw
    simp only [G]
    rw [this]
    have hk2 : (b.kind == CallKind.early) = false := by rw [hb]; rfl
    simp only [stepG.apply, if_true, he, Frame.at, hk2, Bool.false_eq_true, if_false, GStep.after, Array.append_empty]
    simp [seen]
  · rw [Frame.finish_at, ho]
    exact h x v' hx
/-- A function by its body. -/
theorem KCalls.body {f : FuncId} {fn : Func} {code : Code} {args : Array Value} (hfn : P.funcs[f]? = some fn) (hbody : fn.body = some code) {R : Value → World → Prop}
    (h : ∀ (c : Frame) (cs : List Frame) (Q : Goroutine → World → Prop), (∀ x v', R x v' → K P B (G (c.finish x) cs) v' Q) →
      K P B (G ((Frame.enter P f args .normal).at ⟨args ++ Array.replicate (fn.ntmps - args.size) undef, []⟩ [.code code]) (c :: cs)) v Q) : KCalls P B f args v R := fun c cs Q hq => by
  have := h c cs Q hq
  have e : Frame.enter P f args .normal = (Frame.enter P f args .normal).at ⟨args ++ Array.replicate (fn.ntmps - args.size) undef, []⟩ [.code code] := by
    simp [Frame.enter, Frame.at, hfn, hbody]
  rw [e]
  exact this
end Go.Proofs.Ytadngncbbbbapaa.Lift
