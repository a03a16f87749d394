/-
  A piece of tame code in a frame of whatever function: what it does alone it does beside others that only leave, whatever comes behind it.
-/
import Derived.Test.YtadngncbbbbapaaBeside
namespace Go.Proofs.Ytadngncbbbbapaa.Lift
open Go.Conc Go.Proofs.Ytadngncbbbbapaa.Crew
set_option linter.unusedVariables false
set_option linter.unusedSectionVars false
set_option linter.unusedSimpArgs false
variable {P : Program} {T : FuncId → Prop} {S : Nat → Prop}

/-- What comes behind in the lone run: nothing. -/
def kS : List Item := [.code (.refuse "")]
def bf (b : Frame) (tmps : Array Value) (k : List Item) : Frame := b.at ⟨tmps, []⟩ k
def rf (b : Frame) (tmps : Array Value) (k : List Item) : Frame := { b.at ⟨tmps, []⟩ k with mode := .returning }

theorem exit_in {id : Nat} : ∀ {p p' : List Item} (k : List Item), exitTo id p = some p' → exitTo id (p ++ k) = some (p' ++ k)
  | [], p', k, h => by simp [exitTo] at h
  | y :: p, p', k, h => by
    cases y with
    | inBlock j =>
      simp only [exitTo, List.cons_append] at h ⊢
      split at h
      · cases h; simp_all
      · rename_i hj; simp only [hj]; exact exit_in k h
    | _ => simp only [exitTo, List.cons_append] at h ⊢; exact exit_in k h
theorem exit_out {id : Nat} {q : List Item} (hq : exitTo id q = none) : ∀ {p : List Item}, exitTo id p = none → exitTo id (p ++ q) = none
  | [], h => hq
  | y :: p, h => by
    cases y with
    | inBlock j =>
      simp only [exitTo, List.cons_append] at h ⊢
      split at h
      · cases h
      · rename_i hj; simp only [hj]; exact exit_out hq h
    | _ => simp only [exitTo, List.cons_append] at h ⊢; exact exit_out hq h

/-- The form of a step in the frame itself. -/
inductive FormB (P : Program) (T : FuncId → Prop) (b : Frame) (tmps : Array Value) (pre : List Item) : Prop
  | ctl (tmps' : Array Value) (pre' : List Item) : (∀ x ∈ pre', ItemT P T x) → (∀ k tl v, stepG P true (G (bf b tmps (pre ++ k)) tl) v = .go (G (bf b tmps' (pre' ++ k)) tl) v #[]) → FormB P T b tmps pre
  | draw (q : Question) (F : Nat → List Item) : (∀ t, ∀ x ∈ F t, ItemT P T x) → q.forced = false → (∀ t, q.cut t = t) → (∀ k tl v, stepG P true (G (bf b tmps (pre ++ k)) tl) v = .go (G (bf b tmps (F (v.tape v.drawn q) ++ k)) tl) { v with drawn := v.drawn + 1 } #[]) → FormB P T b tmps pre
  | op (e : Sem Next) (ops : Array Oper) (i : Nat) (rest : List Nat) (pre' : List Item) : pre = .inRegion ops (i :: rest) :: pre' → Tame P (NextOk T) e → (∀ k tl v, stepG P true (G (bf b tmps (pre ++ k)) tl) v = stepG.apply P true (bf b tmps (pre ++ k)) tl none e v) → FormB P T b tmps pre
  | ret : (∀ k tl v, stepG P true (G (bf b tmps (pre ++ k)) tl) v = .go (G (rf b tmps (pre ++ k)) tl) v #[]) → FormB P T b tmps pre
  | lost : (∀ q, (∀ id, exitTo id q = none) → ∀ tl v, ∃ o u, stepG P true (G (bf b tmps (pre ++ q)) tl) v = .ended o u #[]) → FormB P T b tmps pre

theorem formB {b : Frame} {tmps : Array Value} {x : Item} {p : List Item} (hx : ItemT P T x) (ht : ∀ y ∈ p, ItemT P T y) : FormB P T b tmps (x :: p) := by
  have two : ∀ {a c : Item}, ItemT P T a → ItemT P T c → ∀ y ∈ a :: c :: p, ItemT P T y := fun h1 h2 y hy => by
    simp only [List.mem_cons] at hy
    rcases hy with rfl | rfl | hy
    · exact h1
    · exact h2
    · exact ht y hy
  have one : ∀ {a : Item}, ItemT P T a → ∀ y ∈ a :: p, ItemT P T y := fun h1 y hy => by
    simp only [List.mem_cons] at hy
    rcases hy with rfl | hy
    · exact h1
    · exact ht y hy
  cases x with
  | inBlock j => exact .ctl tmps p ht fun k tl v => by simp [bf, Frame.at, G, stepG, stepG.exec]
  | inLoop c => exact .ctl tmps (.code c :: .inLoop c :: p) (two hx hx) fun k tl v => by simp [bf, Frame.at, G, stepG, stepG.exec]
  | inRegion ops l =>
    cases l with
    | nil => exact .ctl tmps p ht fun k tl v => by simp [bf, Frame.at, G, stepG, stepG.exec]
    | cons i rest =>
      cases hw : ((ops[i]?).map (Region.wanted · (yielded ops tmps))).getD false with
      | false => exact .ctl (match (ops[i]?).bind (·.dst) with | some d => tmps.setIfInBounds d undef | none => tmps) (.inRegion ops rest :: p) (one hx) fun k tl v => by simp [bf, Frame.at, G, stepG, stepG.exec, hw, Frame.finish]; rfl
      | true =>
        cases ho : ops[i]? with
        | none => simp [ho] at hw
        | some o =>
          have hop := hx o (Array.mem_of_getElem? ho)
          refine .op (execOp (Act.eval ⟨tmps, []⟩) o) ops i rest p rfl (by have := hop.2 (b.at ⟨tmps, []⟩ []); rwa [Frame.eval_at'] at this) fun k tl v => ?_
          have hw' : Region.wanted o (yielded ops tmps) = true := by simpa [ho] using hw
          have he := Frame.eval_at' b ⟨tmps, []⟩ (.inRegion ops (i :: rest) :: (p ++ k))
          simp only [Frame.at] at he
          simp only [bf, Frame.at, G, stepG, stepG.exec, List.cons_append, ho, Option.map_some, Option.getD_some, hw', if_true, stepG.oper, Frame.oper?, he]
  | code c =>
    cases c with
    | skip => exact .ctl tmps p ht fun k tl v => by simp [bf, Frame.at, G, stepG, stepG.exec]
    | label l => exact .ctl tmps p ht fun k tl v => by simp [bf, Frame.at, G, stepG, stepG.exec]
    | ret => exact .ret fun k tl v => by simp [bf, rf, Frame.at, G, stepG, stepG.exec]
    | region id ops dr =>
      cases dr with
      | false => exact .ctl tmps (.inRegion ops (List.range ops.size) :: p) (one hx) fun k tl v => by simp [bf, Frame.at, G, stepG, stepG.exec]
      | true => exact .draw (.order b.fn id) (fun t => .inRegion ops (Region.schedule (P.follows .mixedOrders) ops t) :: p) (fun t => one hx) rfl (fun _ => rfl) fun k tl v => by simp [bf, Frame.at, G, stepG, stepG.exec, choose, Sem.run, Question.forced, Question.cut]
    | seq a c => exact .ctl tmps (.code a :: .code c :: p) (two hx.1 hx.2) fun k tl v => by simp [bf, Frame.at, G, stepG, stepG.exec]
    | cond c a d =>
      cases hc : Act.eval ⟨tmps, []⟩ c with
      | bool t =>
        have htd : ItemT P T (.code (if t then a else d)) := by
          cases t
          · exact hx.2
          · exact hx.1
        exact .ctl tmps (.code (if t then a else d) :: p) (one htd) fun k tl v => by
          have he := Frame.eval_at b ⟨tmps, []⟩ (.code (.cond c a d) :: (p ++ k)) c
          simp only [Frame.at] at he
          simp [bf, Frame.at, G, stepG, stepG.exec, he, hc]
      | _ =>
        exact .lost fun q _ tl v => by
          have he := Frame.eval_at b ⟨tmps, []⟩ (.code (.cond c a d) :: (p ++ q)) c
          simp only [Frame.at] at he
          simp [bf, Frame.at, G, stepG, stepG.exec, he, hc]
    | block id c => exact .ctl tmps (.code c :: .inBlock id :: p) (two hx trivial) fun k tl v => by simp [bf, Frame.at, G, stepG, stepG.exec]
    | loop c => exact .ctl tmps (.code c :: .inLoop c :: p) (two hx hx) fun k tl v => by simp [bf, Frame.at, G, stepG, stepG.exec]
    | exit id =>
      cases he : exitTo id p with
      | some p' => exact .ctl tmps p' (fun y hy => ht y (exit_sub he y hy)) fun k tl v => by simp [bf, Frame.at, G, stepG, stepG.exec, exit_in k he]
      | none => exact .lost fun q hq tl v => by simp [bf, Frame.at, G, stepG, stepG.exec, exit_out (hq _) he]
    | refuse why => exact .lost fun q _ tl v => by simp [bf, Frame.at, G, stepG, stepG.exec]
    | _ => exact hx.elim
  | _ => exact False.elim hx

/-! ### the lone run and the run in company -/
section
variable (P : Program) (T : FuncId → Prop) (b : Frame) (kL k : List Item) (cs : List Frame)
inductive Tw : Goroutine → Goroutine → Prop
  | top (tmps : Array Value) (pre : List Item) : (∀ x ∈ pre, ItemT P T x) → Tw (G (bf b tmps (pre ++ kL)) [c0]) (G (bf b tmps (pre ++ k)) cs)
  | up (fr : Frame) (fs : List Frame) (tmps : Array Value) (ops : Array Oper) (i : Nat) (rest : List Nat) (pre : List Item) : St P T fr fs → (∀ x ∈ Item.inRegion ops (i :: rest) :: pre, ItemT P T x) →
      Tw (G fr (fs ++ (bf b tmps (.inRegion ops (i :: rest) :: pre ++ kL) :: [c0]))) (G fr (fs ++ (bf b tmps (.inRegion ops (i :: rest) :: pre ++ k) :: cs)))
  | ret (tmps : Array Value) (pre : List Item) : Tw (G (rf b tmps (pre ++ kL)) [c0]) (G (rf b tmps (pre ++ k)) cs)
def Fin (g : Goroutine) : Prop := (∃ tmps, g = G (bf b tmps kS) [c0]) ∨ ∃ tmps todo, g = G (rf b tmps todo) [c0]
end
section
variable {b : Frame} {kL k : List Item} {cs : List Frame}
/-- Both steps of a pair. -/
inductive Both (P : Program) (T : FuncId → Prop) (R : Goroutine → Goroutine → Prop) (h g : Goroutine) : Prop
  | ctl (h' g' : Goroutine) : R h' g' → (∀ v, stepG P true h v = .go h' v #[]) → (∀ v, stepG P true g v = .go g' v #[]) → Both P T R h g
  | draw (q : Question) (H F : Nat → Goroutine) : (∀ t, R (H t) (F t)) → (∀ v, stepG P true h v = .go (H (v.tape v.drawn q)) { v with drawn := v.drawn + 1 } #[]) → (∀ v, stepG P true g v = .go (F (v.tape v.drawn q)) { v with drawn := v.drawn + 1 } #[]) → Both P T R h g
  | op (e : Sem Next) (fh fg : Frame) (ch cg : List Frame) : Tame P (NextOk T) e → Plain fh → Plain fg → fh.fn = fg.fn → (∀ n, NextOk T n → R (after (P := P) fh ch n) (after (P := P) fg cg n)) → (∀ x, Panics (G (fh.raise [{ v := x, recovered := false }]) ch)) →
      (∀ v, stepG P true h v = stepG.apply P true fh ch none e v) → (∀ v, stepG P true g v = stepG.apply P true fg cg none e v) → Both P T R h g
  | lost : (∀ v, ∃ o u, stepG P true h v = .ended o u #[]) → Both P T R h g

theorem plain_bf (hb : b.kind = .normal) {tmps : Array Value} {ops : Array Oper} {l : List Nat} {p : List Item} : Plain (bf b tmps (.inRegion ops l :: p)) := ⟨hb, fun d c r s k e => by cases e⟩
theorem finish_bf {tmps : Array Value} {ops : Array Oper} {i : Nat} {rest : List Nat} {p : List Item} (x : Value) :
    (bf b tmps (.inRegion ops (i :: rest) :: p)).finish x = bf b (Act.put ⟨tmps, []⟩ ((ops[i]?).bind (·.dst)) x).tmps (.inRegion ops rest :: p) := by
  unfold bf
  rw [Frame.finish_at]
  cases (ops[i]?).bind (·.dst) <;> rfl

theorem Both.mono {P : Program} {T : FuncId → Prop} {R R' : Goroutine → Goroutine → Prop} {h g : Goroutine} (hb : Both P T R h g) (hr : ∀ h g, R h g → R' h g) : Both P T R' h g := by
  cases hb with
  | ctl h' g' x e1 e2 => exact .ctl h' g' (hr _ _ x) e1 e2
  | draw q H F x e1 e2 => exact .draw q H F (fun t => hr _ _ (x t)) e1 e2
  | op e fh fg ch cg x1 x2 x3 x4 x5 x6 e1 e2 => exact .op e fh fg ch cg x1 x2 x3 x4 (fun n hn => hr _ _ (x5 n hn)) x6 e1 e2
  | lost e1 => exact .lost e1
theorem both (hF : Fns P T) (hb : b.kind = .normal) (hk : ∀ id, exitTo id kL = none) {h g : Goroutine} (ht : Tw P T b kL k cs h g) (hf : ∀ tmps, h ≠ G (bf b tmps kL) [c0]) (hf' : ∀ tmps todo, h ≠ G (rf b tmps todo) [c0]) : Both P T (Tw P T b kL k cs) h g := by
  cases ht with
  | top tmps pre hp =>
    cases pre with
    | nil => exact absurd rfl (hf tmps)
    | cons x p =>
      cases formB (b := b) (tmps := tmps) (hp x List.mem_cons_self) (fun y hy => hp y (List.mem_cons_of_mem _ hy)) with
      | ctl tmps' pre' hp' hst => exact .ctl _ _ (.top tmps' pre' hp') (hst _ _) (hst _ _)
      | draw q F hp' _ _ hst => exact .draw q (fun t => G (bf b tmps (F t ++ kL)) [c0]) (fun t => G (bf b tmps (F t ++ k)) cs) (fun t => .top tmps _ (hp' t)) (hst _ _) (hst _ _)
      | op e ops i rest pre' hpre he hst =>
        rw [hpre] at hst hp ⊢
        refine .op e (bf b tmps (.inRegion ops (i :: rest) :: pre' ++ kL)) (bf b tmps (.inRegion ops (i :: rest) :: pre' ++ k)) [c0] cs he (plain_bf hb) (plain_bf hb) rfl (fun n hn => ?_) (fun x => .inl ⟨_, [], [{ v := x, recovered := false }], rfl, rfl, rfl, by simp⟩) (hst kL [c0]) (hst k cs)
        have hp' : ∀ y ∈ Item.inRegion ops rest :: pre', ItemT P T y := fun y hy => by
          rcases List.mem_cons.1 hy with rfl | hy
          · exact hp (.inRegion ops (i :: rest)) List.mem_cons_self
          · exact hp y (List.mem_cons_of_mem _ hy)
        cases n with
        | value x => simp only [after, List.cons_append, finish_bf]; exact .top _ (.inRegion ops rest :: pre') hp'
        | skip => simp only [after, List.cons_append, finish_bf]; exact .top _ (.inRegion ops rest :: pre') hp'
        | enter f a => exact .up _ [] tmps ops i rest pre' ⟨enter_tame hF hn a, by simp⟩ hp
        | _ => exact hn.elim
      | ret hst => exact .ctl _ _ (.ret tmps (x :: p)) (hst _ _) (hst _ _)
      | lost hst => exact .lost (hst _ hk _)
  | up fr fs tmps ops i rest pre hst hp =>
    have hp' : ∀ y ∈ Item.inRegion ops rest :: pre, ItemT P T y := fun y hy => by
      rcases List.mem_cons.1 hy with rfl | hy
      · exact hp (.inRegion ops (i :: rest)) List.mem_cons_self
      · exact hp y (List.mem_cons_of_mem _ hy)
    cases form (fs := fs) hF hst.top with
    | ctl fr' hfr' heq => exact .ctl _ _ (.up fr' fs tmps ops i rest pre ⟨hfr', hst.up⟩ hp) (heq _) (heq _)
    | draw q F hfr' _ _ heq => exact .draw q _ _ (fun t => .up (F t) fs tmps ops i rest pre ⟨hfr' t, hst.up⟩ hp) (heq _) (heq _)
    | op e he hrun _ heq =>
      refine .op e _ _ _ _ he hst.top.plain hst.top.plain rfl (fun n hn => ?_) (fun x => .inl ⟨fr.raise [{ v := x, recovered := false }], fs ++ [bf b tmps (.inRegion ops (i :: rest) :: pre ++ kL)], [{ v := x, recovered := false }], by simp, by unfold Frame.raise; rw [hrun], by unfold Frame.raise; rw [hrun]; exact hst.top.defers, fun f hf' => ?_⟩) (heq _) (heq _)
      · obtain ⟨fr', fs', hst', haf⟩ := after_st hF hst hrun hn
        rw [haf, haf]
        exact .up fr' fs' tmps ops i rest pre hst' hp
      · rcases List.mem_append.1 hf' with h1 | h1
        · exact (hst.up f h1).1.defers
        · simp only [List.mem_singleton] at h1; subst h1; rfl
    | back c fs' x hfs heq =>
      subst hfs
      have hc := hst.up c List.mem_cons_self
      exact .ctl _ _ (.up _ fs' tmps ops i rest pre ⟨finish_tame hc.1 x hc.2, fun f hf' => hst.up f (List.mem_cons_of_mem _ hf')⟩ hp) (heq _) (heq _)
    | base hfs hm =>
      subst hfs
      obtain ⟨fn, h1, h4⟩ := hst.top.fn
      obtain ⟨x, hx⟩ := h4 fr.tmps
      have ret : ∀ c tl v, stepG P true (G fr (c :: tl)) v = .go (G (c.finish x) tl) v #[] := fun c tl v => by
        simp only [G, stepG, hm, unwind, hst.top.defers, h1, hx, Sem.runT, doReturn, hst.top.kind]
        simp [GStep.after, seen]
      refine .ctl (G (bf b (Act.put ⟨tmps, []⟩ ((ops[i]?).bind (·.dst)) x).tmps (.inRegion ops rest :: pre ++ kL)) [c0]) (G (bf b (Act.put ⟨tmps, []⟩ ((ops[i]?).bind (·.dst)) x).tmps (.inRegion ops rest :: pre ++ k)) cs) (.top _ (.inRegion ops rest :: pre) hp') (fun v => ?_) (fun v => ?_)
      · rw [List.nil_append, ret, List.cons_append, finish_bf]; rfl
      · rw [List.nil_append, ret, List.cons_append, finish_bf]; rfl
    | lost heq => exact .lost (heq _)
  | ret tmps pre => exact absurd rfl (hf' tmps _)
end
end Go.Proofs.Ytadngncbbbbapaa.Lift
