/-
  What tame code does alone it does beside others that only leave.
  A piece of tame code in a frame of whatever function: what it does alone it does beside others that only leave, whatever comes behind it.
  From one frame between calls that start workers to the next: the judgement, its rules, and pieces of tame code in it.
  The first operations of a region, and what comes behind them in it.
  Calls in company: who is called is given as what it does to the frame behind it.
  From the making of a group to behind its wait.
  From the entry of a law to its end.
  What lay below is as it was, the tape aside; and small laws of K.
  Several tame statements in a row, and what comes behind them.
  Code in company: what it does, whatever frame it stands in and whatever comes behind it.
-/
import Derived.Test.YtlpfogkfjjbklacTame
import Derived.Test.YtlpfogkfjjbklacCrew
import Derived.Conc.FxBegin
import Derived.Below
namespace Go.Proofs.Ytlpfogkfjjbklac.Lift
open Go.Conc Go.Proofs.Ytlpfogkfjjbklac.Crew
open Go.ConcN (sumTo upd sumTo_upd upd_ne upd_same)
set_option linter.unusedVariables false
set_option linter.unusedSectionVars false
set_option linter.unusedSimpArgs false
variable {P : Program} {T : FuncId → Prop} {S : Nat → Prop}

theorem _root_.Go.Proofs.Ytlpfogkfjjbklac.Crew.Fr.own {t : Trace} {L n m : Nat} (h : Fr (shun S) n t L) (hm : n ≤ m) {fn : FuncId} {pos : String} {es : Array Event} (he : ∀ e ∈ es, EvO S m e) : Fr (shun S) m (t ++ MemOp.ofEvents 0 fn pos es) L := by
  have g0 : ∀ op ∈ MemOp.ofEvents 0 fn pos es, op.g = 0 := fun op hop => by obtain ⟨e, _, rfl⟩ := Go.Conc.mem_ofEvents hop; rfl
  refine ⟨(h.past.mono hm).own fun e hx => ⟨fun x hx' hs => absurd hs ((he e hx).1 x hx'), (he e hx).2⟩, h.quiet.app fun op hop x hx hs => ?_, fun i a ha => ?_, fun i op hi => ?_⟩
  · obtain ⟨e, hx', rfl⟩ := Go.Conc.mem_ofEvents hop
    exact absurd hs ((he e hx').1 x hx)
  · obtain ⟨op, ho, hoa⟩ := touch_of ha
    rcases getElem?_append_cases ho with ⟨_, ho'⟩ | ⟨_, hou⟩
    · exact (h.known i a (by rw [touchAt_of ho']; exact hoa)).imp (·.app _) id
    · have := knows_own ho
      rw [g0 op hou] at this
      exact .inl this
  · rcases getElem?_append_cases hi with ⟨_, hi'⟩ | ⟨_, hiu⟩
    · exact h.gs i op hi'
    · rw [g0 op hiu]; exact Nat.zero_le _
theorem _root_.Go.Proofs.Ytlpfogkfjjbklac.Crew.Fr.mute {t : Trace} {L n g : Nat} (h : Fr (shun S) n t L) (hg : g ≠ 0) (hL : g ≤ L) {fn : FuncId} {pos : String} {es : Array Event} (hm : ∀ e ∈ es, e.mute = true) : Fr (shun S) n (t ++ MemOp.ofEvents g fn pos es) L := by
  have hn : ∀ op ∈ MemOp.ofEvents g fn pos es, op.act.touch? = none ∧ op.g = g := fun op hop => by obtain ⟨e, hx, rfl⟩ := Go.Conc.mem_ofEvents hop; exact ⟨touch_mute (hm e hx), rfl⟩
  refine ⟨h.past.mute hg hm, h.quiet.app fun op hop x hx hs => ?_, fun i a ha => ?_, fun i op hi => ?_⟩
  · rw [(hn op hop).1] at hx; cases hx
  · obtain ⟨op, ho, hoa⟩ := touch_of ha
    rcases getElem?_append_cases ho with ⟨_, ho'⟩ | ⟨_, hou⟩
    · exact (h.known i a (by rw [touchAt_of ho']; exact hoa)).imp (·.app _) id
    · rw [(hn op hou).1] at hoa; cases hoa
  · rcases getElem?_append_cases hi with ⟨_, hi'⟩ | ⟨_, hiu⟩
    · exact h.gs i op hi'
    · rw [(hn op hiu).2]; exact hL

/-- Goroutine 0 as told, in a machine all of whose others only leave. -/
structure At (P : Program) (S : Nat → Prop) (a : Goroutine) (v : World) (L : Nat) (m : Machine) (t : Trace) : Prop where
  ex : ∃ (gs : Array Goroutine) (w : World) (sl : Option (Nat × Nat)) (q : Nat → Nat), m = crowd gs w sl ∧ gs[0]? = some a ∧ gs.size = L + 1 ∧ Leavers P t gs q ∧ Fr (shun S) w.heap.size t L ∧ Sim S (re v w.tape w.drawn) w

/-- A step of the machine beside leavers: goroutine 0's, or a leaver's. -/
theorem beside_step {gs : Array Goroutine} {w : World} {sl : Option (Nat × Nat)} {t : Trace} {q : Nat → Nat} {L : Nat} {a : Goroutine} {v : World}
    (h0 : gs[0]? = some a) (hsz : gs.size = L + 1) (hL : Leavers P t gs q) (hF : Fr (shun S) w.heap.size t L) (hS : Sim S (re v w.tape w.drawn) w) (hrun : a.status = .running) :
    ∃ d, (∀ a' w' es, stepG P true a (w.at d) = .go a' w' es → (∀ e ∈ es, EvO S w'.heap.size e) → w.heap.size ≤ w'.heap.size → ∀ v', Sim S (re v' w'.tape w'.drawn) w' → ∃ m' ops, stepT P (crowd gs w sl) = (.next m', ops) ∧ At P S a' v' L m' (t ++ ops)) ∨
      (∃ gs' sl' q' ops, stepT P (crowd gs w sl) = (.next (crowd gs' (w.at d) sl'), ops) ∧ gs'[0]? = some a ∧ gs'.size = L + 1 ∧ Leavers P (t ++ ops) gs' q' ∧ Fr (shun S) w.heap.size (t ++ ops) L ∧ sumTo gs'.size q' < sumTo gs.size q) := by
  have haw : ∀ g ∈ gs, awake g := by
    intro g hg
    obtain ⟨i, hi, rfl⟩ := Array.mem_iff_getElem.1 hg
    rcases Nat.eq_zero_or_pos i with rfl | hpos
    · have : gs[0] = a := by simpa [Array.getElem?_eq_getElem hi] using h0
      rw [this]; exact awake_of (.inl hrun)
    · exact awake_of ((hL.old i _ hpos (Array.getElem?_eq_getElem hi)).status.elim .inl fun x => .inr (.inr x))
  obtain ⟨i, g, d, sl', hi, hg, hst⟩ := crowd_pick (P := P) (w := w) (sl := sl) haw ⟨0, a, h0, hrun⟩
  refine ⟨d, ?_⟩
  rcases Nat.eq_zero_or_pos i with rfl | hpos
  · left
    obtain rfl : g = a := by rw [h0] at hi; exact (Option.some.inj hi).symm
    intro a' w' es hgo hev hle v' hS'
    have hrunT := runT_crowd_go (P := P) (sl := sl') (i := 0) hi (show stepG P (0 == 0) g (w.at d) = _ from hgo)
    have hlt : 0 < gs.size := (Array.getElem?_eq_some_iff.1 h0).1
    refine ⟨_, _, by rw [hst]; exact hrunT, ⟨_, w', sl', q, rfl, by simp [hlt], by simp [hsz], ⟨fun j x hj hx => ?_, fun j hj => ?_⟩, hF.own hle hev, hS'⟩⟩
    · rw [Array.getElem?_setIfInBounds_ne (by omega), Array.getElem?_map] at hx
      obtain ⟨y, hy, rfl⟩ := Option.map_eq_some_iff.1 hx
      have hq := hL.old j y hj hy
      rw [woken_quitsD hq, Deaf_other t (g' := 0) (by omega) _ (fun op hop => by obtain ⟨e, _, rfl⟩ := Go.Conc.mem_ofEvents hop; rfl)]
      exact hq
    · have h1 : gs.size ≤ j := by simpa using hj
      rw [Deaf_other t (g' := 0) (by omega) _ (fun op hop => by obtain ⟨e, _, rfl⟩ := Go.Conc.mem_ofEvents hop; rfl)]
      exact hL.above j (by simpa using hj)
  · right
    have hq := hL.old i g hpos hi
    have hi0 : (i == 0) = false := by simp; omega
    have hlt : i < gs.size := (Array.getElem?_eq_some_iff.1 hi).1
    cases hqi : q i with
    | zero => rw [hqi] at hq; rw [hq.1] at hg; cases hg
    | succ k =>
      rw [hqi] at hq
      rcases hq with ⟨hf, _⟩ | ⟨_, g', es, hm, hstp, hq'⟩
      · rw [hf] at hg; cases hg
      have hrunT := runT_crowd_go (P := P) (sl := sl') (i := i) hi (by rw [hi0]; exact hstp (w.at d))
      have hsum : sumTo gs.size (upd q i k) + (k + 1) = sumTo gs.size q + k := by
        have := sumTo_upd q k id hlt
        simpa [hqi] using this
      refine ⟨_, sl', upd q i k, _, by rw [hst]; exact hrunT, ?_, by simp [hsz], ⟨fun j x hj hx => ?_, fun j hj => ?_⟩, hF.mute (by omega) (by omega) hm, by simp only [Array.size_setIfInBounds, Array.size_map]; omega⟩
      · rw [Array.getElem?_setIfInBounds_ne (by omega), Array.getElem?_map, h0]
        simp [woken_run hrun]
      · by_cases hji : i = j
        · subst hji
          rw [Array.getElem?_setIfInBounds_self_of_lt (by simpa using hlt)] at hx
          obtain rfl := Option.some.inj hx
          rw [upd_same, Deaf_own]
          exact hq'
        · rw [Array.getElem?_setIfInBounds_ne hji, Array.getElem?_map] at hx
          obtain ⟨y, hy, rfl⟩ := Option.map_eq_some_iff.1 hx
          have hqj := hL.old j y hj hy
          rw [woken_quitsD hqj, upd_ne q k (Ne.symm hji), Deaf_other t hji _ (fun op hop => by obtain ⟨e, _, rfl⟩ := Go.Conc.mem_ofEvents hop; rfl)]
          exact hqj
      · have h1 : gs.size ≤ j := by simpa using hj
        rw [Deaf_other t (g' := i) (by omega) _ (fun op hop => by obtain ⟨e, _, rfl⟩ := Go.Conc.mem_ofEvents hop; rfl)]
        exact hL.above j (by simpa using hj)

/-- If goroutine 0's next step is well whatever the tape, the machine comes to behind it. -/
theorem one_step {a : Goroutine} {v : World} {L : Nat} {m : Machine} {t : Trace} (hA : At P S a v L m t) (hrun : a.status = .running) {Q : Goroutine → World → Prop}
    (hstep : ∀ w, Sim S (re v w.tape w.drawn) w → ∃ a' v' w' es, stepG P true a w = .go a' w' es ∧ (∀ e ∈ es, EvO S w'.heap.size e) ∧ w.heap.size ≤ w'.heap.size ∧ Sim S (re v' w'.tape w'.drawn) w' ∧ Q a' v') :
    ∃ N m' t' a' v', runNT P N m t = (.next m', t') ∧ At P S a' v' L m' t' ∧ Q a' v' := by
  obtain ⟨gs, w, sl, q, rfl, h0, hsz, hL, hF, hS⟩ := hA.ex
  clear hA
  generalize hM : sumTo gs.size q = M
  induction M using Nat.strongRecOn generalizing gs w sl q t with
  | _ M ih =>
    obtain ⟨d, hd⟩ := beside_step (sl := sl) h0 hsz hL hF hS hrun
    have hSd : Sim S (re v (w.at d).tape (w.at d).drawn) (w.at d) := ⟨hS.size, hS.same, hS.gone, hS.os, hS.output, rfl, rfl⟩
    rcases hd with hd | ⟨gs', sl', q', ops, hst, h0', hsz', hL', hF', hlt⟩
    · obtain ⟨a', v', w', es, hgo, hev, hle, hS', hQ⟩ := hstep (w.at d) hSd
      obtain ⟨m', ops, hst, hA'⟩ := hd a' w' es hgo hev hle v' hS'
      exact ⟨1, m', _, a', v', by simp only [runNT, hst], hA', hQ⟩
    · obtain ⟨N, m', t', a', v', hr, hA', hQ⟩ := ih _ (by omega) (gs := gs') (w := w.at d) (sl := sl') (q := q') (t := t ++ ops) h0' hsz' hL' hF' hSd rfl
      exact ⟨N + 1, m', t', a', v', by simp only [runNT, hst]; exact hr, hA', hQ⟩
end Go.Proofs.Ytlpfogkfjjbklac.Lift
namespace Go.Proofs.Ytlpfogkfjjbklac.Lift
open Go.Conc Go.Proofs.Ytlpfogkfjjbklac.Crew
set_option linter.unusedVariables false
set_option linter.unusedSectionVars false
set_option linter.unusedSimpArgs false
variable {P : Program} {T : FuncId → Prop} {S : Nat → Prop}

/-- What comes behind in the lone run: nothing. -/
def kS : List Item := [.code (.refuse "")]
def bf (b : Frame) (tmps : Array Value) (k : List Item) : Frame := b.at ⟨tmps, []⟩ k
def rf (b : Frame) (tmps : Array Value) (k : List Item) : Frame := { b.at ⟨tmps, []⟩ k with mode := .returning }

theorem exit_in {id : Nat} : ∀ {p p' : List Item} (k : List Item), exitTo id p = some p' → exitTo id (p ++ k) = some (p' ++ k)
  | [], p', k, h => by simp [exitTo] at h
  | y :: p, p', k, h => by
    cases y with
    | inBlock j =>
      simp only [exitTo, List.cons_append] at h ⊢
      split at h
      · cases h; simp_all
      · rename_i hj; simp only [hj]; exact exit_in k h
    | _ => simp only [exitTo, List.cons_append] at h ⊢; exact exit_in k h
theorem exit_out {id : Nat} {q : List Item} (hq : exitTo id q = none) : ∀ {p : List Item}, exitTo id p = none → exitTo id (p ++ q) = none
  | [], h => hq
  | y :: p, h => by
    cases y with
    | inBlock j =>
      simp only [exitTo, List.cons_append] at h ⊢
      split at h
      · cases h
      · rename_i hj; simp only [hj]; exact exit_out hq h
    | _ => simp only [exitTo, List.cons_append] at h ⊢; exact exit_out hq h

/-- The form of a step in the frame itself. -/
inductive FormB (P : Program) (T : FuncId → Prop) (b : Frame) (tmps : Array Value) (pre : List Item) : Prop
  | ctl (tmps' : Array Value) (pre' : List Item) : (∀ x ∈ pre', ItemT P T x) → (∀ k tl v, stepG P true (G (bf b tmps (pre ++ k)) tl) v = .go (G (bf b tmps' (pre' ++ k)) tl) v #[]) → FormB P T b tmps pre
  | draw (q : Question) (F : Nat → List Item) : (∀ t, ∀ x ∈ F t, ItemT P T x) → q.forced = false → (∀ t, q.cut t = t) → (∀ k tl v, stepG P true (G (bf b tmps (pre ++ k)) tl) v = .go (G (bf b tmps (F (v.tape v.drawn q) ++ k)) tl) { v with drawn := v.drawn + 1 } #[]) → FormB P T b tmps pre
  | op (e : Sem Next) (ops : Array Oper) (i : Nat) (rest : List Nat) (pre' : List Item) : pre = .inRegion ops (i :: rest) :: pre' → Tame P (NextOk T) e → (∀ k tl v, stepG P true (G (bf b tmps (pre ++ k)) tl) v = stepG.apply P true (bf b tmps (pre ++ k)) tl none e v) → FormB P T b tmps pre
  | ret : (∀ k tl v, stepG P true (G (bf b tmps (pre ++ k)) tl) v = .go (G (rf b tmps (pre ++ k)) tl) v #[]) → FormB P T b tmps pre
  | lost : (∀ q, (∀ id, exitTo id q = none) → ∀ tl v, ∃ o u, stepG P true (G (bf b tmps (pre ++ q)) tl) v = .ended o u #[]) → FormB P T b tmps pre

theorem formB {b : Frame} {tmps : Array Value} {x : Item} {p : List Item} (hx : ItemT P T x) (ht : ∀ y ∈ p, ItemT P T y) : FormB P T b tmps (x :: p) := by
  have two : ∀ {a c : Item}, ItemT P T a → ItemT P T c → ∀ y ∈ a :: c :: p, ItemT P T y := fun h1 h2 y hy => by
    simp only [List.mem_cons] at hy
    rcases hy with rfl | rfl | hy
    · exact h1
    · exact h2
    · exact ht y hy
  have one : ∀ {a : Item}, ItemT P T a → ∀ y ∈ a :: p, ItemT P T y := fun h1 y hy => by
    simp only [List.mem_cons] at hy
    rcases hy with rfl | hy
    · exact h1
    · exact ht y hy
  cases x with
  | inBlock j => exact .ctl tmps p ht fun k tl v => by simp [bf, Frame.at, G, stepG, stepG.exec]
  | inLoop c => exact .ctl tmps (.code c :: .inLoop c :: p) (two hx hx) fun k tl v => by simp [bf, Frame.at, G, stepG, stepG.exec]
  | inRegion ops l =>
    cases l with
    | nil => exact .ctl tmps p ht fun k tl v => by simp [bf, Frame.at, G, stepG, stepG.exec]
    | cons i rest =>
      cases hw : ((ops[i]?).map (Region.wanted · (yielded ops tmps))).getD false with
      | false => exact .ctl (match (ops[i]?).bind (·.dst) with | some d => tmps.setIfInBounds d undef | none => tmps) (.inRegion ops rest :: p) (one hx) fun k tl v => by simp [bf, Frame.at, G, stepG, stepG.exec, hw, Frame.finish]; rfl
      | true =>
        cases ho : ops[i]? with
        | none => simp [ho] at hw
        | some o =>
          have hop := hx o (Array.mem_of_getElem? ho)
          refine .op (execOp (Act.eval ⟨tmps, []⟩) o) ops i rest p rfl (by have := hop.2 (b.at ⟨tmps, []⟩ []); rwa [Frame.eval_at'] at this) fun k tl v => ?_
          have hw' : Region.wanted o (yielded ops tmps) = true := by simpa [ho] using hw
          have he := Frame.eval_at' b ⟨tmps, []⟩ (.inRegion ops (i :: rest) :: (p ++ k))
          simp only [Frame.at] at he
          simp only [bf, Frame.at, G, stepG, stepG.exec, List.cons_append, ho, Option.map_some, Option.getD_some, hw', if_true, stepG.oper, Frame.oper?, he]
  | code c =>
    cases c with
    | skip => exact .ctl tmps p ht fun k tl v => by simp [bf, Frame.at, G, stepG, stepG.exec]
    | label l => exact .ctl tmps p ht fun k tl v => by simp [bf, Frame.at, G, stepG, stepG.exec]
    | ret => exact .ret fun k tl v => by simp [bf, rf, Frame.at, G, stepG, stepG.exec]
    | region id ops dr =>
      cases dr with
      | false => exact .ctl tmps (.inRegion ops (List.range ops.size) :: p) (one hx) fun k tl v => by simp [bf, Frame.at, G, stepG, stepG.exec]
      | true => exact .draw (.order b.fn id) (fun t => .inRegion ops (Region.schedule (P.follows .mixedOrders) ops t) :: p) (fun t => one hx) rfl (fun _ => rfl) fun k tl v => by simp [bf, Frame.at, G, stepG, stepG.exec, choose, Sem.run, Question.forced, Question.cut]
    | seq a c => exact .ctl tmps (.code a :: .code c :: p) (two hx.1 hx.2) fun k tl v => by simp [bf, Frame.at, G, stepG, stepG.exec]
    | cond c a d =>
      cases hc : Act.eval ⟨tmps, []⟩ c with
      | bool t =>
        have htd : ItemT P T (.code (if t then a else d)) := by
          cases t
          · exact hx.2
          · exact hx.1
        exact .ctl tmps (.code (if t then a else d) :: p) (one htd) fun k tl v => by
          have he := Frame.eval_at b ⟨tmps, []⟩ (.code (.cond c a d) :: (p ++ k)) c
          simp only [Frame.at] at he
          simp [bf, Frame.at, G, stepG, stepG.exec, he, hc]
      | _ =>
        exact .lost fun q _ tl v => by
          have he := Frame.eval_at b ⟨tmps, []⟩ (.code (.cond c a d) :: (p ++ q)) c
          simp only [Frame.at] at he
          simp [bf, Frame.at, G, stepG, stepG.exec, he, hc]
    | block id c => exact .ctl tmps (.code c :: .inBlock id :: p) (two hx trivial) fun k tl v => by simp [bf, Frame.at, G, stepG, stepG.exec]
    | loop c => exact .ctl tmps (.code c :: .inLoop c :: p) (two hx hx) fun k tl v => by simp [bf, Frame.at, G, stepG, stepG.exec]
    | exit id =>
      cases he : exitTo id p with
      | some p' => exact .ctl tmps p' (fun y hy => ht y (exit_sub he y hy)) fun k tl v => by simp [bf, Frame.at, G, stepG, stepG.exec, exit_in k he]
      | none => exact .lost fun q hq tl v => by simp [bf, Frame.at, G, stepG, stepG.exec, exit_out (hq _) he]
    | refuse why => exact .lost fun q _ tl v => by simp [bf, Frame.at, G, stepG, stepG.exec]
    | _ => exact hx.elim
  | _ => exact False.elim hx

/-! ### the lone run and the run in company -/
section
variable (P : Program) (T : FuncId → Prop) (b : Frame) (kL k : List Item) (cs : List Frame)
inductive Tw : Goroutine → Goroutine → Prop
  | top (tmps : Array Value) (pre : List Item) : (∀ x ∈ pre, ItemT P T x) → Tw (G (bf b tmps (pre ++ kL)) [c0]) (G (bf b tmps (pre ++ k)) cs)
  | up (fr : Frame) (fs : List Frame) (tmps : Array Value) (ops : Array Oper) (i : Nat) (rest : List Nat) (pre : List Item) : St P T fr fs → (∀ x ∈ Item.inRegion ops (i :: rest) :: pre, ItemT P T x) →
      Tw (G fr (fs ++ (bf b tmps (.inRegion ops (i :: rest) :: pre ++ kL) :: [c0]))) (G fr (fs ++ (bf b tmps (.inRegion ops (i :: rest) :: pre ++ k) :: cs)))
  | ret (tmps : Array Value) (pre : List Item) : Tw (G (rf b tmps (pre ++ kL)) [c0]) (G (rf b tmps (pre ++ k)) cs)
def Fin (g : Goroutine) : Prop := (∃ tmps, g = G (bf b tmps kS) [c0]) ∨ ∃ tmps todo, g = G (rf b tmps todo) [c0]
end
section
variable {b : Frame} {kL k : List Item} {cs : List Frame}
/-- Both steps of a pair. -/
inductive Both (P : Program) (T : FuncId → Prop) (R : Goroutine → Goroutine → Prop) (h g : Goroutine) : Prop
  | ctl (h' g' : Goroutine) : R h' g' → (∀ v, stepG P true h v = .go h' v #[]) → (∀ v, stepG P true g v = .go g' v #[]) → Both P T R h g
  | draw (q : Question) (H F : Nat → Goroutine) : (∀ t, R (H t) (F t)) → (∀ v, stepG P true h v = .go (H (v.tape v.drawn q)) { v with drawn := v.drawn + 1 } #[]) → (∀ v, stepG P true g v = .go (F (v.tape v.drawn q)) { v with drawn := v.drawn + 1 } #[]) → Both P T R h g
  | op (e : Sem Next) (fh fg : Frame) (ch cg : List Frame) : Tame P (NextOk T) e → Plain fh → Plain fg → fh.fn = fg.fn → (∀ n, NextOk T n → R (after (P := P) fh ch n) (after (P := P) fg cg n)) → (∀ x, Panics (G (fh.raise [{ v := x, recovered := false }]) ch)) →
      (∀ v, stepG P true h v = stepG.apply P true fh ch none e v) → (∀ v, stepG P true g v = stepG.apply P true fg cg none e v) → Both P T R h g
  | ret (e : Sem Value) (fr ch cg : Frame) (tlh tlg : List Frame) : Tame P (fun _ => True) e → (∀ x, R (G (ch.finish x) tlh) (G (cg.finish x) tlg)) → (∀ v, stepG P true h v = retStep P fr e ch tlh v) → (∀ v, stepG P true g v = retStep P fr e cg tlg v) → Both P T R h g
  | lost : (∀ v, ∃ o u, stepG P true h v = .ended o u #[]) → Both P T R h g

theorem plain_bf (hb : b.kind = .normal) {tmps : Array Value} {ops : Array Oper} {l : List Nat} {p : List Item} : Plain (bf b tmps (.inRegion ops l :: p)) := ⟨hb, fun d c r s k e => by cases e⟩
theorem finish_bf {tmps : Array Value} {ops : Array Oper} {i : Nat} {rest : List Nat} {p : List Item} (x : Value) :
    (bf b tmps (.inRegion ops (i :: rest) :: p)).finish x = bf b (Act.put ⟨tmps, []⟩ ((ops[i]?).bind (·.dst)) x).tmps (.inRegion ops rest :: p) := by
  unfold bf
  rw [Frame.finish_at]
  cases (ops[i]?).bind (·.dst) <;> rfl

theorem Both.mono {P : Program} {T : FuncId → Prop} {R R' : Goroutine → Goroutine → Prop} {h g : Goroutine} (hb : Both P T R h g) (hr : ∀ h g, R h g → R' h g) : Both P T R' h g := by
  cases hb with
  | ctl h' g' x e1 e2 => exact .ctl h' g' (hr _ _ x) e1 e2
  | draw q H F x e1 e2 => exact .draw q H F (fun t => hr _ _ (x t)) e1 e2
  | op e fh fg ch cg x1 x2 x3 x4 x5 x6 e1 e2 => exact .op e fh fg ch cg x1 x2 x3 x4 (fun n hn => hr _ _ (x5 n hn)) x6 e1 e2
  | ret e fr ch cg tlh tlg x1 x2 e1 e2 => exact .ret e fr ch cg tlh tlg x1 (fun x => hr _ _ (x2 x)) e1 e2
  | lost e1 => exact .lost e1
theorem both (hF : Fns P T) (hb : b.kind = .normal) (hk : ∀ id, exitTo id kL = none) {h g : Goroutine} (ht : Tw P T b kL k cs h g) (hf : ∀ tmps, h ≠ G (bf b tmps kL) [c0]) (hf' : ∀ tmps todo, h ≠ G (rf b tmps todo) [c0]) : Both P T (Tw P T b kL k cs) h g := by
  cases ht with
  | top tmps pre hp =>
    cases pre with
    | nil => exact absurd rfl (hf tmps)
    | cons x p =>
      cases formB (b := b) (tmps := tmps) (hp x List.mem_cons_self) (fun y hy => hp y (List.mem_cons_of_mem _ hy)) with
      | ctl tmps' pre' hp' hst => exact .ctl _ _ (.top tmps' pre' hp') (hst _ _) (hst _ _)
      | draw q F hp' _ _ hst => exact .draw q (fun t => G (bf b tmps (F t ++ kL)) [c0]) (fun t => G (bf b tmps (F t ++ k)) cs) (fun t => .top tmps _ (hp' t)) (hst _ _) (hst _ _)
      | op e ops i rest pre' hpre he hst =>
        rw [hpre] at hst hp ⊢
        refine .op e (bf b tmps (.inRegion ops (i :: rest) :: pre' ++ kL)) (bf b tmps (.inRegion ops (i :: rest) :: pre' ++ k)) [c0] cs he (plain_bf hb) (plain_bf hb) rfl (fun n hn => ?_) (fun x => .inl ⟨_, [], [{ v := x, recovered := false }], rfl, rfl, rfl, by simp⟩) (hst kL [c0]) (hst k cs)
        have hp' : ∀ y ∈ Item.inRegion ops rest :: pre', ItemT P T y := fun y hy => by
          rcases List.mem_cons.1 hy with rfl | hy
          · exact hp (.inRegion ops (i :: rest)) List.mem_cons_self
          · exact hp y (List.mem_cons_of_mem _ hy)
        cases n with
        | value x => simp only [after, List.cons_append, finish_bf]; exact .top _ (.inRegion ops rest :: pre') hp'
        | skip => simp only [after, List.cons_append, finish_bf]; exact .top _ (.inRegion ops rest :: pre') hp'
        | enter f a => exact .up _ [] tmps ops i rest pre' ⟨enter_tame hF hn a, by simp⟩ hp
        | _ => exact hn.elim
      | ret hst => exact .ctl _ _ (.ret tmps (x :: p)) (hst _ _) (hst _ _)
      | lost hst => exact .lost (hst _ hk _)
  | up fr fs tmps ops i rest pre hst hp =>
    have hp' : ∀ y ∈ Item.inRegion ops rest :: pre, ItemT P T y := fun y hy => by
      rcases List.mem_cons.1 hy with rfl | hy
      · exact hp (.inRegion ops (i :: rest)) List.mem_cons_self
      · exact hp y (List.mem_cons_of_mem _ hy)
    cases form (fs := fs) hF hst.top with
    | ctl fr' hfr' heq => exact .ctl _ _ (.up fr' fs tmps ops i rest pre ⟨hfr', hst.up⟩ hp) (heq _) (heq _)
    | draw q F hfr' _ _ heq => exact .draw q _ _ (fun t => .up (F t) fs tmps ops i rest pre ⟨hfr' t, hst.up⟩ hp) (heq _) (heq _)
    | op e he hrun _ heq =>
      refine .op e _ _ _ _ he hst.top.plain hst.top.plain rfl (fun n hn => ?_) (fun x => .inl ⟨fr.raise [{ v := x, recovered := false }], fs ++ [bf b tmps (.inRegion ops (i :: rest) :: pre ++ kL)], [{ v := x, recovered := false }], by simp, by unfold Frame.raise; rw [hrun], by unfold Frame.raise; rw [hrun]; exact hst.top.defers, fun f hf' => ?_⟩) (heq _) (heq _)
      · obtain ⟨fr', fs', hst', haf⟩ := after_st hF hst hrun hn
        rw [haf, haf]
        exact .up fr' fs' tmps ops i rest pre hst' hp
      · rcases List.mem_append.1 hf' with h1 | h1
        · exact (hst.up f h1).1.defers
        · simp only [List.mem_singleton] at h1; subst h1; rfl
    | back c fs' e hfs he heq =>
      subst hfs
      have hc := hst.up c List.mem_cons_self
      exact .ret e fr c c _ _ he (fun x => .up _ fs' tmps ops i rest pre ⟨finish_tame hc.1 x hc.2, fun f hf' => hst.up f (List.mem_cons_of_mem _ hf')⟩ hp) (heq _) (heq _)
    | base hfs hm =>
      subst hfs
      obtain ⟨fn, h1, h4⟩ := hst.top.fn
      have ret := ret_step (P := P) hst.top.kind hst.top.defers hm h1
      refine .ret (results fn fr.tmps) fr (bf b tmps (.inRegion ops (i :: rest) :: pre ++ kL)) (bf b tmps (.inRegion ops (i :: rest) :: pre ++ k)) [c0] cs (h4 _) (fun x => ?_) (ret _ _) (ret _ _)
      rw [List.cons_append, List.cons_append, finish_bf, finish_bf]
      exact .top _ (.inRegion ops rest :: pre) hp'
    | lost heq => exact .lost (heq _)
  | ret tmps pre => exact absurd rfl (hf' tmps _)
end
end Go.Proofs.Ytlpfogkfjjbklac.Lift
namespace Go.Proofs.Ytlpfogkfjjbklac.Lift
open Go.Conc Go.Proofs.Ytlpfogkfjjbklac.Crew
set_option linter.unusedVariables false
set_option linter.unusedSectionVars false
set_option linter.unusedSimpArgs false
variable {P : Program} {B : Nat} {T : FuncId → Prop} {S : Nat → Prop} {a a' : Goroutine} {v : World} {Q Q' : Goroutine → World → Prop}

/-- Whatever the tape and whoever still leaves: goroutine 0 comes from here to a place of which Q holds. -/
def K (P : Program) (B : Nat) (a : Goroutine) (v : World) (Q : Goroutine → World → Prop) : Prop :=
  ∀ S L m t, (∀ b, S b → B ≤ b) → At P S a v L m t → ∃ N m' t' S' L' a' v', runNT P N m t = (.next m', t') ∧ (∀ b, S' b → B ≤ b) ∧ At P S' a' v' L' m' t' ∧ Q a' v'
theorem K.here (h : Q a v) : K P B a v Q := fun S L m t hS hA => ⟨0, m, t, S, L, a, v, rfl, hS, hA, h⟩
theorem K.bind (h : K P B a v fun a' v' => K P B a' v' Q) : K P B a v Q := fun S L m t hS hA => by
  obtain ⟨N, m', t', S', L', a', v', hr, hS', hA', hk⟩ := h S L m t hS hA
  obtain ⟨N', m₂, t₂, S₂, L₂, a₂, v₂, hr', hS₂, hA₂, hq⟩ := hk S' L' m' t' hS' hA'
  exact ⟨N + N', m₂, t₂, S₂, L₂, a₂, v₂, by rw [runNT_add, hr]; exact hr', hS₂, hA₂, hq⟩
theorem K.mono (h : K P B a v Q) (hq : ∀ a v, Q a v → Q' a v) : K P B a v Q' := fun S L m t hS hA => by
  obtain ⟨N, m', t', S', L', a', v', hr, hS', hA', hk⟩ := h S L m t hS hA
  exact ⟨N, m', t', S', L', a', v', hr, hS', hA', hq _ _ hk⟩
theorem K.re {τ : Nat → Question → Nat} {d : Nat} (h : K P B a (re v τ d) Q) : K P B a v Q := fun S L m t hS hA => h S L m t hS ⟨hA.ex⟩
theorem sim_re {v w : World} (h : Sim S v w) : Sim S (Lift.re v w.tape w.drawn) w := by
  have : Lift.re v w.tape w.drawn = v := by rw [← h.tape, ← h.drawn]; rfl
  rw [this]; exact h
theorem K.step (hrun : a.status = .running) (h : ∀ S w, Sim S (Lift.re v w.tape w.drawn) w → ∃ a' v' w' es, stepG P true a w = .go a' w' es ∧ (∀ e ∈ es, EvO S w'.heap.size e) ∧ w.heap.size ≤ w'.heap.size ∧ Sim S (Lift.re v' w'.tape w'.drawn) w' ∧ K P B a' v' Q) : K P B a v Q :=
  K.bind fun S L m t hS hA => by
    obtain ⟨N, m', t', a', v', hr, hA', hq⟩ := one_step (Q := fun a' v' => K P B a' v' Q) hA hrun (h S)
    exact ⟨N, m', t', S, L, a', v', hr, hS, hA', hq⟩
theorem K.idle (hrun : a.status = .running) (h : ∀ w, stepG P true a w = .go a' w #[]) (hk : K P B a' v Q) : K P B a v Q :=
  K.step hrun fun S w hs => ⟨a', v, w, #[], h w, by simp, Nat.le_refl _, hs, hk⟩

theorem K.maybe {a'' : Goroutine} (h : a = a'' ∨ (a.status = .running ∧ ∀ v, stepG P true a v = .go a'' v #[])) (hk : K P B a'' v Q) : K P B a v Q := by
  rcases h with rfl | ⟨h1, h2⟩
  · exact hk
  · exact K.idle h1 h2 hk

/-! ### pairs: a goroutine that runs alone, and one in company that does the same -/
structure Pair (P : Program) (T : FuncId → Prop) where
  R : Goroutine → Goroutine → Prop
  fin : Goroutine → Prop
  form : ∀ {h g}, R h g → (∃ fr c, h = G fr c) ∧ ∃ fr c, g = G fr c
  both : ∀ {h g}, R h g → ¬ fin h → ∃ g', (g = g' ∨ (g.status = .running ∧ ∀ v, stepG P true g v = .go g' v #[])) ∧ g'.status = .running ∧ Both P T R h g'
  calm : ∀ h, fin h → ¬ Panics h
  never : ∀ h v n h' v', fin h → runN P (n + 1) (loneOf h v) = .next (loneOf h' v') → ¬ fin h'
  halt : ∀ {h v Stop}, fin h → (∀ g v, Stop g v → fin g) → Tree P Stop h v → Stop h v
def land (hF : Fns P T) (A : Pair P T) : Land P where
  ts h := ∃ g, A.R h g
  fin := A.fin
  form := fun h ⟨g, hg⟩ => (A.form hg).1
  go := fun h v ⟨g, hg⟩ hf => by
    obtain ⟨g1, _, _, hbo⟩ := A.both hg hf
    cases hbo with
    | ctl h' g' ht e1 _ => exact .inr ⟨h', v, #[], 0, e1 v, rfl, rfl, .inl ⟨g', ht⟩, fun τ d _ => e1 _⟩
    | draw q H F ht e1 _ => exact .inr ⟨_, _, #[], 1, e1 v, rfl, rfl, .inl ⟨_, ht _⟩, fun τ d hw => by rw [e1]; have := hw 0 (by omega); simp only [Nat.add_zero] at this; simp only [re_tape, re_drawn, this]; rfl⟩
    | op e fh fg ch cg he p1 p2 _ hn hp e1 _ =>
      obtain ⟨m, a1, a2, a3⟩ := tapes he v #[]
      have hl := lock (S := fun _ => False) he v v #[] ⟨rfl, fun _ _ => rfl, fun _ h => h.elim, rfl, rfl, rfl, rfl⟩
      cases hr : e.runT P v #[] with
      | mk r es' =>
        rw [hr] at hl a1 a2 a3
        cases r with
        | ok n u => exact .inr ⟨_, u, _, m, by rw [e1, apply_ok p1 hl.1 hr], a1, a2, .inl ⟨_, hn n hl.1⟩, fun τ d hw => by rw [e1, apply_ok p1 hl.1 (a3 τ d hw)]⟩
        | halt x u =>
          rcases hl with hb' | ⟨⟨pv, rfl⟩, _⟩
          · refine .inl ⟨m, fun τ d hw => ?_⟩
            obtain ⟨o, u', he'⟩ := apply_bad (cs := ch) hF p1 hb' (a3 τ d hw)
            exact ⟨o, u', _, by rw [e1, he']⟩
          · exact .inr ⟨_, u, _, m, by rw [e1, apply_panic p1 hr], a1, a2, .inr (hp pv), fun τ d hw => by rw [e1, apply_panic p1 (a3 τ d hw)]⟩
    | ret e fr ch cg tlh tlg he hR e1 _ =>
      obtain ⟨m, a1, a2, a3⟩ := tapes he v #[]
      cases hr : e.runT P v #[] with
      | mk r es' =>
        rw [hr] at a1 a2 a3
        cases r with
        | ok x u => exact .inr ⟨_, u, _, m, by rw [e1, ret_ok hr], a1, a2, .inl ⟨_, hR x⟩, fun τ d hw => by rw [e1, ret_ok (a3 τ d hw)]⟩
        | halt x u => exact .inl ⟨m, fun τ d hw => by rw [e1]; exact ret_bad (a3 τ d hw)⟩
    | lost e1 => exact .inl ⟨0, fun τ d _ => let ⟨o, u, h⟩ := e1 _; ⟨o, u, _, h⟩⟩
  calm := A.calm
  never := fun h v n h' v' _ hf hr => A.never h v n h' v' hf hr

theorem K.tree (hF : Fns P T) (A : Pair P T) {h : Goroutine} (ht : Tree P (Base (land hF A) fun h w => ∀ g, A.R h g → K P B g w Q) h v) : ∀ {g : Goroutine}, A.R h g → K P B g v Q := by
  induction ht with
  | @stop h v hs => intro g hg; exact hs.2 g hg
  | @step h v f e1 ht' ih =>
    intro g hg
    by_cases hf : A.fin h
    · exact (A.halt hf (fun g v hs => hs.1) (.step f e1 ht')).2 g hg
    · obtain ⟨g1, hi, hrun, hbo⟩ := A.both hg hf
      refine K.maybe hi ?_
      refine K.step hrun fun S w hs => ?_
      obtain ⟨es, he⟩ := e1 w.tape w.drawn
      cases hbo with
      | ctl h' g' ht e2 e3 =>
        rw [e2] at he
        injection he with h1 h2 h3
        refine ⟨g', (f w.tape w.drawn).2, w, #[], e3 w, by simp, Nat.le_refl _, ?_, ih w.tape w.drawn (by rw [← h1]; exact ht)⟩
        rw [← h2]; exact hs
      | draw q H F ht e2 e3 =>
        rw [e2] at he
        injection he with h1 h2 h3
        refine ⟨_, (f w.tape w.drawn).2, _, #[], e3 w, by simp, Nat.le_refl _, ?_, ih w.tape w.drawn (by rw [← h1]; exact ht _)⟩
        rw [← h2]
        exact ⟨hs.size, hs.same, hs.gone, hs.os, hs.output, rfl, rfl⟩
      | op e fh fg ch cg he' p1 p2 hfn hn hp e2 e3 =>
        rw [e2] at he
        have hl := lock (S := S) he' _ w #[] hs
        cases hr : e.runT P (Lift.re v w.tape w.drawn) #[] with
        | mk r es' =>
          rw [hr] at hl
          cases r with
          | ok n u =>
            obtain ⟨hn', w', hw, hs', hk, hev⟩ := hl
            rw [apply_ok p1 hn' hr] at he
            injection he with h1 h2 h3
            refine ⟨_, (f w.tape w.drawn).2, w', _, by rw [e3, apply_ok p2 hn' hw], fun x hx => ?_, ?_, ?_, ih w.tape w.drawn (by rw [← h1]; exact hn n hn')⟩
            · have := (hev x (mem_seen hx)).resolve_left (by simp)
              rw [← hs'.size]; exact this
            · have h4 := hk.2.2
              have h5 := hs.size
              have h6 := hs'.size
              simp only [re_heap] at h4 h5
              omega
            · rw [← h2]; exact sim_re hs'
          | halt x u =>
            rcases hl with hbad | ⟨⟨pv, rfl⟩, _⟩
            · obtain ⟨o, u', h'⟩ := apply_bad (cs := ch) hF p1 hbad hr
              rw [he] at h'; cases h'
            · rw [apply_panic p1 hr] at he
              injection he with h1 h2 h3
              exact absurd (ht' w.tape w.drawn) (panics_tree (show Panics (f w.tape w.drawn).1 by rw [← h1]; exact hp pv))
      | ret e fr ch cg tlh tlg he' hR e2 e3 =>
        rw [e2] at he
        have hl := lock (S := S) he' _ w #[] hs
        cases hr : e.runT P (Lift.re v w.tape w.drawn) #[] with
        | mk r es' =>
          rw [hr] at hl
          cases r with
          | ok x u =>
            obtain ⟨hn', w', hw, hs', hk, hev⟩ := hl
            rw [ret_ok hr] at he
            injection he with h1 h2 h3
            refine ⟨_, (f w.tape w.drawn).2, w', _, by rw [e3, ret_ok hw], fun x hx => ?_, ?_, ?_, ih w.tape w.drawn (by rw [← h1]; exact hR x)⟩
            · have := (hev x (mem_seen hx)).resolve_left (by simp)
              rw [← hs'.size]; exact this
            · have h4 := hk.2.2
              have h5 := hs.size
              have h6 := hs'.size
              simp only [re_heap] at h4 h5
              omega
            · rw [← h2]; exact sim_re hs'
          | halt x u =>
            obtain ⟨o, u', es'', h'⟩ := ret_bad (fr := fr) (c := ch) (cs := tlh) hr
            rw [he] at h'; cases h'
      | lost e2 =>
        obtain ⟨o, u, h'⟩ := e2 (Lift.re v w.tape w.drawn)
        rw [he] at h'; cases h'
/-- What comes alone to a place to stop, on every tape, comes there in company. -/
theorem K.pair (hF : Fns P T) (A : Pair P T) {h g : Goroutine} (hR : A.R h g) (hrun : ∀ τ, ∃ n h' v', runN P n (loneOf h (Lift.re v τ 0)) = .next (loneOf h' v') ∧ A.fin h' ∧ ∀ g', A.R h' g' → K P B g' v' Q) : K P B g v Q :=
  K.tree hF A (bar (A := land hF A) (R := fun h w => ∀ g, A.R h g → K P B g w Q) (fun g v τ d hR g' hg' => (hR g' hg').re) ⟨_, hR⟩ hrun) hR

/-- A place at which one is lost. -/
theorem no_tree {g : Goroutine} {Stop : Goroutine → World → Prop} {v : World} (he : ∀ v, ∃ o u es, stepG P true g v = .ended o u es) (ht : Tree P Stop g v) : Stop g v := by
  cases ht with
  | stop hs => exact hs
  | step f e1 _ =>
    obtain ⟨es, h1⟩ := e1 v.tape v.drawn
    obtain ⟨o, u, es', h2⟩ := he (Lift.re v v.tape v.drawn)
    rw [h1] at h2; cases h2
/-- One step ahead of such a place. -/
theorem one_tree {g g' : Goroutine} {Stop : Goroutine → World → Prop} {v : World} (hg : ∀ v, stepG P true g v = .go g' v #[]) (he : ∀ v, ∃ o u es, stepG P true g' v = .ended o u es) (hs : ∀ v, ¬ Stop g' v) (ht : Tree P Stop g v) : Stop g v := by
  cases ht with
  | stop hs => exact hs
  | step f e1 ht' =>
    obtain ⟨es, h1⟩ := e1 v.tape v.drawn
    rw [hg] at h1
    injection h1 with h2 _ _
    have := ht' v.tape v.drawn
    rw [← h2] at this
    exact absurd (no_tree he this) (hs _)

section
variable {b : Frame} {kL k : List Item} {cs : List Frame}
theorem tw_form {h g : Goroutine} (ht : Tw P T b kL k cs h g) : (∃ fr c, h = G fr c) ∧ ∃ fr c, g = G fr c := by
  cases ht <;> exact ⟨⟨_, _, rfl⟩, _, _, rfl⟩
theorem fin_calm {h : Goroutine} (hf : Fin b h) : ¬ Panics h := by
  rintro (⟨fr, fs, chain, he, hm, _⟩ | ⟨chain, he⟩) <;> rcases hf with ⟨tmps, rfl⟩ | ⟨tmps, todo, rfl⟩
  · have := congrArg (fun g : Goroutine => g.frame.mode) he
    simp only [G, bf, Frame.at, hm] at this; cases this
  · have := congrArg (fun g : Goroutine => g.frame.mode) he
    simp only [G, rf, Frame.at, hm] at this; cases this
  · have := congrArg Goroutine.callers he; cases this
  · have := congrArg Goroutine.callers he; cases this
theorem fin_never (hb : b.kind = .normal) (hres : ResOk P b.fn) {h : Goroutine} {v : World} {n : Nat} {h' : Goroutine} {v' : World} (hf : Fin b h) (hr : runN P (n + 1) (loneOf h v) = .next (loneOf h' v')) : ¬ Fin b h' := by
  rcases hf with ⟨tmps, rfl⟩ | ⟨tmps, todo, rfl⟩
  · have he : ∃ o u es, stepG P true (G (bf b tmps kS) [c0]) v = .ended o u es := by simp [bf, kS, Frame.at, G, stepG, stepG.exec]
    obtain ⟨o, u, es, he⟩ := he
    simp only [runN, step_end he] at hr
    cases hr
  · obtain ⟨fn, h1, h4⟩ := hres
    obtain ⟨x, hx⟩ := h4 tmps
    have hs : stepG P true (G (rf b tmps todo) [c0]) v = .go (G (c0.finish x) []) v #[] := by
      simp only [rf, Frame.at, G, stepG, unwind, h1, hx, Sem.runT, doReturn, hb]
      simp [GStep.after, seen]
    have he : ∃ o u es, stepG P true (G (c0.finish x) []) v = .ended o u es := ⟨_, _, _, by simp only [G, stepG, c0, Frame.finish, stepG.exec]; rfl⟩
    simp only [runN, step_go hs] at hr
    cases n with
    | zero =>
      simp only [runN, Stepped.next.injEq] at hr
      have := congrArg Machine.gs hr
      simp only [loneOf] at this
      have h2 := congrArg (fun a : Array Goroutine => (a[0]?).map (·.callers)) this
      rintro (⟨tmps', rfl⟩ | ⟨tmps', todo', rfl⟩) <;> simp [G] at h2
    | succ n =>
      obtain ⟨o, u, es, he⟩ := he
      simp only [runN, step_end he] at hr
      cases hr
/-- What is asked where the piece of code is left. -/
def Left (P : Program) (B : Nat) (b : Frame) (k : List Item) (cs : List Frame) (Q : Goroutine → World → Prop) (e : Exit) (a : Act) (w : World) : Prop :=
  (e = .normal ∧ a.defers = [] ∧ K P B (G (b.at a k) cs) w Q) ∨ (e = .ret ∧ a.defers = [] ∧ ∀ pre, K P B (G (rf b a.tmps (pre ++ k)) cs) w Q)
theorem kS_self {pre : List Item} (h : pre ++ kS = kS) : pre = [] := by
  have := congrArg List.length h
  simp at this
  exact this
def pairT (hF : Fns P T) (hb : b.kind = .normal) (hres : ResOk P b.fn) (k : List Item) (cs : List Frame) : Pair P T where
  R := Tw P T b kS k cs
  fin := Fin b
  form := tw_form
  both := fun {h g} hR hf => ⟨g, .inl rfl, by obtain ⟨_, fr, c, rfl⟩ := tw_form hR; rfl, Lift.both hF hb (fun _ => rfl) hR (fun tmps e => hf (.inl ⟨tmps, e⟩)) (fun tmps todo e => hf (.inr ⟨tmps, todo, e⟩))⟩
  calm := fun h hf => fin_calm hf
  never := fun h v n h' v' hf hr => fin_never hb hres hf hr
  halt := fun {h v Stop} hf hS ht => by
    rcases hf with ⟨tmps, rfl⟩ | ⟨tmps, todo, rfl⟩
    · exact no_tree (fun v => by simp [bf, kS, Frame.at, G, stepG, stepG.exec]) ht
    · obtain ⟨fn, h1, h4⟩ := hres
      obtain ⟨x, hx⟩ := h4 tmps
      refine one_tree (g' := G (c0.finish x) []) (fun v => ?_) (fun v => ⟨_, _, _, by simp only [G, stepG, c0, Frame.finish, stepG.exec]; rfl⟩) (fun v hs => ?_) ht
      · simp only [rf, Frame.at, G, stepG, unwind, h1, hx, Sem.runT, doReturn, hb]
        simp [GStep.after, seen]
      · rcases hS _ _ hs with ⟨t', he'⟩ | ⟨t', td', he'⟩ <;>
        · have := congrArg (fun g : Goroutine => g.callers.length) he'
          simp [G] at this
theorem tw_bf {tmps : Array Value} {g : Goroutine} (hg : Tw P T b kS k cs (G (bf b tmps kS) [c0]) g) : g = G (bf b tmps k) cs := by
  generalize hh : G (bf b tmps kS) [c0] = h at hg
  cases hg with
  | top tmps' pre hp =>
    have e1 : tmps = tmps' := congrArg (fun g : Goroutine => g.frame.tmps) hh
    have e2 : kS = pre ++ kS := congrArg (fun g : Goroutine => g.frame.todo) hh
    subst e1
    obtain rfl := kS_self e2.symm
    rfl
  | up fr fs tmps' ops i rest pre hst hp =>
    have := congrArg (fun g : Goroutine => g.callers.length) hh
    simp [G] at this
  | ret tmps' pre => have := congrArg (fun g : Goroutine => g.frame.mode) hh; simp [G, bf, rf, Frame.at] at this
theorem tw_rf {tmps : Array Value} {todo : List Item} {g : Goroutine} (hg : Tw P T b kS k cs (G (rf b tmps todo) [c0]) g) : ∃ pre, g = G (rf b tmps (pre ++ k)) cs := by
  generalize hh : G (rf b tmps todo) [c0] = h at hg
  cases hg with
  | top tmps' pre hp => have := congrArg (fun g : Goroutine => g.frame.mode) hh; simp [G, bf, rf, Frame.at] at this
  | up fr fs tmps' ops i rest pre hst hp =>
    have := congrArg (fun g : Goroutine => g.callers.length) hh
    simp [G] at this
  | ret tmps' pre =>
    have e1 : tmps = tmps' := congrArg (fun g : Goroutine => g.frame.tmps) hh
    subst e1
    exact ⟨pre, rfl⟩

/-- A piece of tame code. -/
theorem K.seg (hF : Fns P T) (hb : b.kind = .normal) (hres : ResOk P b.fn) {c : Code} (hc : CodeT P T c) {tmps : Array Value} (hw : ∀ τ, c.wp P (Left P B b k cs Q) ⟨tmps, []⟩ (Lift.re v τ 0)) : K P B (G (b.at ⟨tmps, []⟩ (.code c :: k)) cs) v Q := by
  have hts : Tw P T b kS k cs (G (bf b tmps ([.code c] ++ kS)) [c0]) (G (bf b tmps ([.code c] ++ k)) cs) := .top tmps [.code c] (fun x hx => by simp only [List.mem_singleton] at hx; subst hx; exact hc)
  refine K.pair hF (pairT hF hb hres k cs) hts fun τ => ?_
  obtain ⟨e, a', w', hq, harr⟩ := hw τ b kS [c0]
  obtain ⟨tm, ds⟩ := a'
  rcases hq with ⟨rfl, hd, hk⟩ | ⟨rfl, hd, hk⟩
  · have hd' : ds = [] := hd
    subst hd'
    obtain ⟨n, hn⟩ := harr
    refine ⟨n, G (bf b tm kS) [c0], w', hn, .inl ⟨tm, rfl⟩, fun g' hg' => ?_⟩
    rw [tw_bf hg']
    exact hk
  · have hd' : ds = [] := hd
    subst hd'
    obtain ⟨todo, n, hn⟩ := harr
    refine ⟨n, G (rf b tm todo) [c0], w', hn, .inr ⟨tm, todo, rfl⟩, fun g' hg' => ?_⟩
    obtain ⟨pre, rfl⟩ := tw_rf hg'
    exact hk pre
end
end Go.Proofs.Ytlpfogkfjjbklac.Lift
namespace Go.Proofs.Ytlpfogkfjjbklac.Lift
open Go.Conc Go.Proofs.Ytlpfogkfjjbklac.Crew
set_option linter.unusedVariables false
set_option linter.unusedSectionVars false
set_option linter.unusedSimpArgs false
variable {P : Program} {B : Nat} {T : FuncId → Prop} {a a' : Goroutine} {v : World} {Q Q' : Goroutine → World → Prop}
section
variable (P : Program) (T : FuncId → Prop) (b : Frame) (ops : Array Oper) (rest : List Nat) (k : List Item) (cs : List Frame)
def OkI (l : List Nat) : Prop := ∀ i ∈ l, ∀ o, ops[i]? = some o → OpT P T o
inductive TwL : Goroutine → Goroutine → Prop
  | top (tmps : Array Value) (l : List Nat) : OkI P T ops l → TwL (G (bf b tmps (.inRegion ops l :: kS)) [c0]) (G (bf b tmps (.inRegion ops (l ++ rest) :: k)) cs)
  | up (fr : Frame) (fs : List Frame) (tmps : Array Value) (i : Nat) (l : List Nat) : OkI P T ops l → St P T fr fs → TwL (G fr (fs ++ (bf b tmps (.inRegion ops (i :: l) :: kS) :: [c0]))) (G fr (fs ++ (bf b tmps (.inRegion ops (i :: (l ++ rest)) :: k) :: cs)))
def FinL (g : Goroutine) : Prop := ∃ tmps, g = G (bf b tmps (.inRegion ops [] :: kS)) [c0]
end
section
variable {b : Frame} {ops : Array Oper} {rest : List Nat} {k : List Item} {cs : List Frame}
theorem stepL {tmps : Array Value} {i : Nat} (hops : ∀ o, ops[i]? = some o → OpT P T o) : (∃ tmps', ∀ l k tl v, stepG P true (G (bf b tmps (.inRegion ops (i :: l) :: k)) tl) v = .go (G (bf b tmps' (.inRegion ops l :: k)) tl) v #[]) ∨
    ∃ e, Tame P (NextOk T) e ∧ ∀ l k tl v, stepG P true (G (bf b tmps (.inRegion ops (i :: l) :: k)) tl) v = stepG.apply P true (bf b tmps (.inRegion ops (i :: l) :: k)) tl none e v := by
  cases hw : ((ops[i]?).map (Region.wanted · (yielded ops tmps))).getD false with
  | false => exact .inl ⟨match (ops[i]?).bind (·.dst) with | some d => tmps.setIfInBounds d undef | none => tmps, fun l k tl v => by simp [bf, Frame.at, G, stepG, stepG.exec, hw, Frame.finish]; rfl⟩
  | true =>
    cases ho : ops[i]? with
    | none => simp [ho] at hw
    | some o =>
      have hop := hops o ho
      refine .inr ⟨execOp (Act.eval ⟨tmps, []⟩) o, by have := hop.2 (b.at ⟨tmps, []⟩ []); rwa [Frame.eval_at'] at this, fun l k tl v => ?_⟩
      have hw' : Region.wanted o (yielded ops tmps) = true := by simpa [ho] using hw
      have he := Frame.eval_at' b ⟨tmps, []⟩ (.inRegion ops (i :: l) :: k)
      simp only [Frame.at] at he
      simp only [bf, Frame.at, G, stepG, stepG.exec, ho, Option.map_some, Option.getD_some, hw', if_true, stepG.oper, Frame.oper?, he]
theorem bothL (hF : Fns P T) (hb : b.kind = .normal) {h g : Goroutine} (ht : TwL P T b ops rest k cs h g) (hf : ¬ FinL b ops h) : Both P T (TwL P T b ops rest k cs) h g := by
  cases ht with
  | top tmps l hl =>
    cases l with
    | nil => exact absurd ⟨tmps, rfl⟩ hf
    | cons i l =>
      have hl' : OkI P T ops l := fun j hj => hl j (List.mem_cons_of_mem _ hj)
      rcases stepL (P := P) (T := T) (b := b) (tmps := tmps) (i := i) (hl i List.mem_cons_self) with ⟨tmps', hst⟩ | ⟨e, he, hst⟩
      · exact .ctl _ _ (.top tmps' l hl') (hst _ _ _) (hst _ _ _)
      · refine .op e (bf b tmps (.inRegion ops (i :: l) :: kS)) (bf b tmps (.inRegion ops (i :: (l ++ rest)) :: k)) [c0] cs he (plain_bf hb) (plain_bf hb) rfl (fun n hn => ?_) (fun x => .inl ⟨_, [], [{ v := x, recovered := false }], rfl, rfl, rfl, by simp⟩) (hst l kS [c0]) (hst (l ++ rest) k cs)
        cases n with
        | value x => simp only [after, finish_bf]; exact .top _ l hl'
        | skip => simp only [after, finish_bf]; exact .top _ l hl'
        | enter f a => exact .up _ [] tmps i l hl' ⟨enter_tame hF hn a, by simp⟩
        | _ => exact hn.elim
  | up fr fs tmps i l hl' hst =>
    cases form (fs := fs) hF hst.top with
    | ctl fr' hfr' heq => exact .ctl _ _ (.up fr' fs tmps i l hl' ⟨hfr', hst.up⟩) (heq _) (heq _)
    | draw q F hfr' _ _ heq => exact .draw q _ _ (fun t => .up (F t) fs tmps i l hl' ⟨hfr' t, hst.up⟩) (heq _) (heq _)
    | op e he hrun _ heq =>
      refine .op e _ _ _ _ he hst.top.plain hst.top.plain rfl (fun n hn => ?_) (fun x => .inl ⟨fr.raise [{ v := x, recovered := false }], fs ++ [bf b tmps (.inRegion ops (i :: l) :: kS)], [{ v := x, recovered := false }], by simp, by unfold Frame.raise; rw [hrun], by unfold Frame.raise; rw [hrun]; exact hst.top.defers, fun f hf' => ?_⟩) (heq _) (heq _)
      · obtain ⟨fr', fs', hst', haf⟩ := after_st hF hst hrun hn
        rw [haf, haf]
        exact .up fr' fs' tmps i l hl' hst'
      · rcases List.mem_append.1 hf' with h1 | h1
        · exact (hst.up f h1).1.defers
        · simp only [List.mem_singleton] at h1; subst h1; rfl
    | back c fs' e hfs he heq =>
      subst hfs
      have hc := hst.up c List.mem_cons_self
      exact .ret e fr c c _ _ he (fun x => .up _ fs' tmps i l hl' ⟨finish_tame hc.1 x hc.2, fun f hf' => hst.up f (List.mem_cons_of_mem _ hf')⟩) (heq _) (heq _)
    | base hfs hm =>
      subst hfs
      obtain ⟨fn, h1, h4⟩ := hst.top.fn
      have ret := ret_step (P := P) hst.top.kind hst.top.defers hm h1
      refine .ret (results fn fr.tmps) fr (bf b tmps (.inRegion ops (i :: l) :: kS)) (bf b tmps (.inRegion ops (i :: (l ++ rest)) :: k)) [c0] cs (h4 _) (fun x => ?_) (ret _ _) (ret _ _)
      rw [finish_bf, finish_bf]
      exact .top _ l hl'
    | lost heq => exact .lost (heq _)
theorem finL_step {tmps : Array Value} {v : World} : stepG P true (G (bf b tmps (.inRegion ops [] :: kS)) [c0]) v = .go (G (bf b tmps kS) [c0]) v #[] := by simp [bf, Frame.at, G, stepG, stepG.exec]
theorem finL_end {tmps : Array Value} {v : World} : ∃ o u es, stepG P true (G (bf b tmps kS) [c0]) v = .ended o u es := by simp [bf, kS, Frame.at, G, stepG, stepG.exec]
def pairL (hF : Fns P T) (hb : b.kind = .normal) (ops : Array Oper) (rest : List Nat) (k : List Item) (cs : List Frame) : Pair P T where
  R := TwL P T b ops rest k cs
  fin := FinL b ops
  form := fun ht => by cases ht <;> exact ⟨⟨_, _, rfl⟩, _, _, rfl⟩
  both := fun {h g} hR hf => ⟨g, .inl rfl, by cases hR <;> rfl, bothL hF hb hR hf⟩
  calm := fun h ⟨tmps, he⟩ => by
    subst he
    rintro (⟨fr, fs, chain, he, hm, _⟩ | ⟨chain, he⟩)
    · have := congrArg (fun g : Goroutine => g.frame.mode) he
      simp only [G, bf, Frame.at, hm] at this; cases this
    · have := congrArg Goroutine.callers he; cases this
  never := fun h v n h' v' ⟨tmps, he⟩ hr => by
    subst he
    simp only [runN, step_go finL_step] at hr
    cases n with
    | zero =>
      simp only [runN, Stepped.next.injEq] at hr
      have := congrArg Machine.gs hr
      simp only [loneOf] at this
      have h2 := congrArg (fun a : Array Goroutine => (a[0]?).map (·.frame.todo)) this
      rintro ⟨tmps', rfl⟩
      simp [G, bf, kS, Frame.at] at h2
    | succ n =>
      obtain ⟨o, u, es, he⟩ := finL_end (P := P) (b := b) (tmps := tmps) (v := v)
      simp only [runN, step_end he] at hr
      cases hr
  halt := fun {h v Stop} ⟨tmps, he⟩ hS ht => by
    subst he
    refine one_tree (fun v => finL_step) (fun v => finL_end) (fun v hs => ?_) ht
    obtain ⟨t', he'⟩ := hS _ _ hs
    have := congrArg (fun g : Goroutine => g.frame.todo) he'
    simp [G, bf, kS, Frame.at] at this
theorem twl_fin {tmps : Array Value} {g : Goroutine} (hg : TwL P T b ops rest k cs (G (bf b tmps (.inRegion ops [] :: kS)) [c0]) g) : g = G (bf b tmps (.inRegion ops rest :: k)) cs := by
  generalize hh : G (bf b tmps (.inRegion ops [] :: kS)) [c0] = h at hg
  cases hg with
  | top tmps' l _ =>
    have e1 : tmps = tmps' := congrArg (fun g : Goroutine => g.frame.tmps) hh
    have e2 := congrArg (fun g : Goroutine => g.frame.todo) hh
    simp [G, bf, kS, Frame.at] at e2
    subst e1 e2
    rfl
  | up fr fs tmps' i l _ hst =>
    have := congrArg (fun g : Goroutine => g.callers.length) hh
    simp [G] at this

/-- The run of the first operations, alone: to where none of them is left. -/
theorem ops_run {P : Program} {ops : Array Oper} {Q : Act → World → Prop} (l : List Nat) : ∀ (a : Act) (w : World), wpOps P ops (fun e a w => e = .normal ∧ Q a w) l a w → ∀ (b : Frame) (k : List Item) (cs : List Frame),
    ∃ a' w', Q a' w' ∧ Steps P (lone (b.at a (.inRegion ops l :: k)) cs w) (lone (b.at a' (.inRegion ops [] :: k)) cs w') := by
  induction l with
  | nil => exact fun a w h b k cs => ⟨a, w, h.2, .refl _ _⟩
  | cons i rest ih =>
    intro a w h b k cs
    simp only [wpOps] at h
    cases ho : ops[i]? with
    | none =>
      simp only [ho] at h
      obtain ⟨a', w', hq, harr⟩ := ih a w h b k cs
      have hs := step_op_skip (P := P) (b := b) (a := a) (k := k) (cs := cs) (w := w) (ops := ops) (i := i) (rest := rest) (by simp [ho])
      simp only [ho, Option.bind_none, Act.put] at hs
      exact ⟨a', w', hq, .trans (.one hs) harr⟩
    | some o =>
      simp only [ho] at h
      by_cases hw : Region.wanted o (yielded ops a.tmps) = true
      · simp only [hw, if_true] at h
        rcases h with h | ⟨hasks, a₀, w₀, hq⟩
        case inr => cases hq.1
        simp only [Oper.wp, Oper.upon] at h
        have hg := stepG_op (P := P) (b := b) (k := k) (cs := cs) (w := w) (rest := rest) ho hw
        have hfin : ∀ v, (b.at a (.inRegion ops (i :: rest) :: k)).finish v = b.at (a.put o.dst v) (.inRegion ops rest :: k) := by
          intro v; rw [Frame.finish_at, ho]; rfl
        split at h
        · rename_i v w' hr
          obtain ⟨a', w'', hq, harr⟩ := ih _ _ h b k cs
          refine ⟨a', w'', hq, .trans (.one (step_lone_go ?_)) harr⟩
          rw [hg, ← hfin]; simp [stepG.apply, hr]
        · rename_i w' hr
          obtain ⟨a', w'', hq, harr⟩ := ih _ _ h b k cs
          refine ⟨a', w'', hq, .trans (.one (step_lone_go ?_)) harr⟩
          rw [hg, ← hfin]; simp [stepG.apply, hr]
        · rename_i d w' hr
          obtain ⟨a', w'', hq, harr⟩ := ih _ _ h b k cs
          refine ⟨a', w'', hq, .trans (.one (step_lone_go ?_)) harr⟩
          have : ({ b.at a (.inRegion ops (i :: rest) :: k) with defers := d :: a.defers } : Frame).finish undef =
              b.at ({ a with defers := d :: a.defers }.put o.dst undef) (.inRegion ops rest :: k) := by
            have := Frame.finish_at b { a with defers := d :: a.defers } ops i rest k undef
            rw [ho] at this; exact this
          rw [hg]; simp only [stepG.apply, Sem.runT_eq, hr, GStep.bare_after]
          exact congrArg (fun fr => GStep.go { frame := fr, callers := cs, status := .running, dying := none } w') this
        · rename_i f args w' hr
          obtain ⟨e, w'', fr, hR, hsteps, _, hleave⟩ := h (b.at a (.inRegion ops (i :: rest) :: k) :: cs)
          have henter : step P (lone (b.at a (.inRegion ops (i :: rest) :: k)) cs w) =
              .next (lone (Frame.enter P f args .normal) (b.at a (.inRegion ops (i :: rest) :: k) :: cs) w') :=
            step_lone_go (by rw [hg]; simp [stepG.apply, hr, Frame.at])
          cases e with
          | returned v =>
            obtain ⟨a', w₃, hq, harr⟩ := ih _ _ hR b k cs
            refine ⟨a', w₃, hq, .trans (.head henter (hsteps.trans (.one ?_))) harr⟩
            rw [← hfin]; exact step_leave_returned hleave
          | panicked chain => cases hR.1
          | outgrown =>
            obtain ⟨a₀, w₀, hq⟩ := hR
            cases hq.1
        · rename_i row args w' hr
          obtain ⟨v, w'', hR, hsteps⟩ := h (b.at a (.inRegion ops (i :: rest) :: k)) cs
          have henter : step P (lone (b.at a (.inRegion ops (i :: rest) :: k)) cs w) =
              .next (lone (Frame.ofRow P row args .normal) (b.at a (.inRegion ops (i :: rest) :: k) :: cs) w') :=
            step_lone_go (by rw [hg]; simp [stepG.apply, hr, Frame.at])
          obtain ⟨a', w₃, hq, harr⟩ := ih _ _ hR b k cs
          refine ⟨a', w₃, hq, .trans (.head henter ?_) harr⟩
          rw [← hfin]; exact hsteps
        · cases h.1
        · exact h.elim
      · simp only [hw, if_false, Bool.false_eq_true] at h
        obtain ⟨a', w', hq, harr⟩ := ih _ _ h b k cs
        have hs := step_op_skip (P := P) (b := b) (a := a) (k := k) (cs := cs) (w := w) (ops := ops) (i := i) (rest := rest)
          (by simp [ho]; simpa using hw)
        simp only [ho, Option.bind_some] at hs
        exact ⟨a', w', hq, .trans (.one hs) harr⟩

/-- The first operations of a region. -/
theorem K.begin (hF : Fns P T) (hb : b.kind = .normal) {l : List Nat} {tmps : Array Value} (hops : OkI P T ops l)
    (hw : ∀ τ, wpOps P ops (fun e a w => e = .normal ∧ a.defers = [] ∧ K P B (G (b.at a (.inRegion ops rest :: k)) cs) w Q) l ⟨tmps, []⟩ (Lift.re v τ 0)) : K P B (G (b.at ⟨tmps, []⟩ (.inRegion ops (l ++ rest) :: k)) cs) v Q := by
  refine K.pair hF (pairL hF hb ops rest k cs) (.top tmps l hops) fun τ => ?_
  obtain ⟨a', w', ⟨hd, hk⟩, n, hn⟩ := ops_run l _ _ (hw τ) b kS [c0]
  obtain ⟨tm, ds⟩ := a'
  have hd' : ds = [] := hd
  subst hd'
  refine ⟨n, G (bf b tm (.inRegion ops [] :: kS)) [c0], w', hn, ⟨tm, rfl⟩, fun g' hg' => ?_⟩
  rw [twl_fin hg']
  exact hk
end
end Go.Proofs.Ytlpfogkfjjbklac.Lift
namespace Go.Proofs.Ytlpfogkfjjbklac.Lift
open Go.Conc Go.Proofs.Ytlpfogkfjjbklac.Crew
set_option linter.unusedVariables false
set_option linter.unusedSectionVars false
set_option linter.unusedSimpArgs false
variable {P : Program} {B : Nat} {T : FuncId → Prop} {a a' : Goroutine} {v : World} {Q Q' : Goroutine → World → Prop} {b : Frame} {k : List Item} {cs : List Frame} {tmps : Array Value}

theorem K.seq {x y : Code} (h : K P B (G (b.at ⟨tmps, []⟩ (.code x :: .code y :: k)) cs) v Q) : K P B (G (b.at ⟨tmps, []⟩ (.code (.seq x y) :: k)) cs) v Q :=
  K.idle rfl (fun w => by simp [Frame.at, G, stepG, stepG.exec]) h
theorem K.skip (h : K P B (G (b.at ⟨tmps, []⟩ k) cs) v Q) : K P B (G (b.at ⟨tmps, []⟩ (.code .skip :: k)) cs) v Q :=
  K.idle rfl (fun w => by simp [Frame.at, G, stepG, stepG.exec]) h
theorem K.label {l : Nat} (h : K P B (G (b.at ⟨tmps, []⟩ k) cs) v Q) : K P B (G (b.at ⟨tmps, []⟩ (.code (.label l) :: k)) cs) v Q :=
  K.idle rfl (fun w => by simp [Frame.at, G, stepG, stepG.exec]) h
theorem K.region {id : Nat} {ops : Array Oper} (h : K P B (G (b.at ⟨tmps, []⟩ (.inRegion ops (List.range ops.size) :: k)) cs) v Q) : K P B (G (b.at ⟨tmps, []⟩ (.code (.region id ops false) :: k)) cs) v Q :=
  K.idle rfl (fun w => by simp [Frame.at, G, stepG, stepG.exec]) h
theorem K.regionEnd {ops : Array Oper} (h : K P B (G (b.at ⟨tmps, []⟩ k) cs) v Q) : K P B (G (b.at ⟨tmps, []⟩ (.inRegion ops [] :: k)) cs) v Q :=
  K.idle rfl (fun w => by simp [Frame.at, G, stepG, stepG.exec]) h
theorem K.cond {c : Operand} {x y : Code} (t : Bool) (hc : Act.eval ⟨tmps, []⟩ c = .bool t) (h : K P B (G (b.at ⟨tmps, []⟩ (.code (if t then x else y) :: k)) cs) v Q) : K P B (G (b.at ⟨tmps, []⟩ (.code (.cond c x y) :: k)) cs) v Q :=
  K.idle rfl (fun w => by
    have he := Frame.eval_at b ⟨tmps, []⟩ (.code (.cond c x y) :: k) c
    simp only [Frame.at] at he
    simp [Frame.at, G, stepG, stepG.exec, he, hc]) h
theorem K.block {id : Nat} {x : Code} (h : K P B (G (b.at ⟨tmps, []⟩ (.code x :: .inBlock id :: k)) cs) v Q) : K P B (G (b.at ⟨tmps, []⟩ (.code (.block id x) :: k)) cs) v Q :=
  K.idle rfl (fun w => by simp [Frame.at, G, stepG, stepG.exec]) h
theorem K.blockEnd {id : Nat} (h : K P B (G (b.at ⟨tmps, []⟩ k) cs) v Q) : K P B (G (b.at ⟨tmps, []⟩ (.inBlock id :: k)) cs) v Q :=
  K.idle rfl (fun w => by simp [Frame.at, G, stepG, stepG.exec]) h
theorem K.loop {x : Code} (h : K P B (G (b.at ⟨tmps, []⟩ (.code x :: .inLoop x :: k)) cs) v Q) : K P B (G (b.at ⟨tmps, []⟩ (.code (.loop x) :: k)) cs) v Q :=
  K.idle rfl (fun w => by simp [Frame.at, G, stepG, stepG.exec]) h
theorem K.round {x : Code} (h : K P B (G (b.at ⟨tmps, []⟩ (.code x :: .inLoop x :: k)) cs) v Q) : K P B (G (b.at ⟨tmps, []⟩ (.inLoop x :: k)) cs) v Q :=
  K.idle rfl (fun w => by simp [Frame.at, G, stepG, stepG.exec]) h
theorem K.exit {id : Nat} {k' : List Item} (he : exitTo id k = some k') (h : K P B (G (b.at ⟨tmps, []⟩ k') cs) v Q) : K P B (G (b.at ⟨tmps, []⟩ (.code (.exit id) :: k)) cs) v Q :=
  K.idle rfl (fun w => by simp [Frame.at, G, stepG, stepG.exec, he]) h
theorem K.ret (h : K P B (G (rf b tmps (.code .ret :: k)) cs) v Q) : K P B (G (b.at ⟨tmps, []⟩ (.code .ret :: k)) cs) v Q :=
  K.idle rfl (fun w => by simp [rf, Frame.at, G, stepG, stepG.exec]) h
theorem K.fall (h : K P B (G (rf b tmps []) cs) v Q) : K P B (G (b.at ⟨tmps, []⟩ []) cs) v Q :=
  K.idle rfl (fun w => by simp [rf, Frame.at, G, stepG, stepG.exec]) h
/-- The frame is left: the caller goes on. -/
theorem K.back (hb : b.kind = .normal) {fn : Func} (hfn : P.funcs[b.fn]? = some fn) {x : Value} (hx : results fn tmps = .pure x) {todo : List Item} {c : Frame} (h : K P B (G (c.finish x) cs) v Q) : K P B (G (rf b tmps todo) (c :: cs)) v Q :=
  K.idle rfl (fun w => by
    simp only [rf, Frame.at, G, stepG, unwind, hfn, hx, Sem.runT, doReturn, hb]
    simp [GStep.after, seen]) h

/-- A function in company. -/
def KCalls (P : Program) (B : Nat) (f : FuncId) (args : Array Value) (v : World) (R : Value → World → Prop) : Prop :=
  ∀ (c : Frame) (cs : List Frame) (Q : Goroutine → World → Prop), (∀ x v', R x v' → K P B (G (c.finish x) cs) v' Q) → K P B (G (Frame.enter P f args .normal) (c :: cs)) v Q
theorem KCalls.mono {f : FuncId} {args : Array Value} {R R' : Value → World → Prop} (h : KCalls P B f args v R) (hr : ∀ x v', R x v' → R' x v') : KCalls P B f args v R' :=
  fun c cs Q hq => h c cs Q fun x v' hx => hq x v' (hr x v' hx)
/-- An operation that calls. -/
theorem K.call (hb : b.kind = .normal) {ops : Array Oper} {i : Nat} {rest : List Nat} {o : Oper} (ho : ops[i]? = some o) (hw : Region.wanted o (yielded ops tmps) = true) {f : FuncId} {args : Array Value}
    (he : ∀ w, (execOp (Act.eval ⟨tmps, []⟩) o).runT P w #[] = (.ok (.enter f args) w, #[])) {R : Value → World → Prop} (hc : KCalls P B f args v R)
    (h : ∀ x v', R x v' → K P B (G (b.at (Act.put ⟨tmps, []⟩ o.dst x) (.inRegion ops rest :: k)) cs) v' Q) : K P B (G (b.at ⟨tmps, []⟩ (.inRegion ops (i :: rest) :: k)) cs) v Q := by
  refine K.idle (a' := G (Frame.enter P f args .normal) (b.at ⟨tmps, []⟩ (.inRegion ops (i :: rest) :: k) :: cs)) rfl (fun w => ?_) (hc _ _ _ fun x v' hx => ?_)
  · have := stepG_op (P := P) (b := b) (a := ⟨tmps, []⟩) (k := k) (cs := cs) (w := w) (rest := rest) ho hw
    simp only [G]
    rw [this]
    have hk2 : (b.kind == CallKind.early) = false := by rw [hb]; rfl
    simp only [stepG.apply, if_true, he, Frame.at, hk2, Bool.false_eq_true, if_false, GStep.after, Array.append_empty]
    simp [seen]
  · rw [Frame.finish_at, ho]
    exact h x v' hx
/-- A function by its body. -/
theorem KCalls.body {f : FuncId} {fn : Func} {code : Code} {args : Array Value} (hfn : P.funcs[f]? = some fn) (hbody : fn.body = some code) {R : Value → World → Prop}
    (h : ∀ (c : Frame) (cs : List Frame) (Q : Goroutine → World → Prop), (∀ x v', R x v' → K P B (G (c.finish x) cs) v' Q) →
      K P B (G ((Frame.enter P f args .normal).at ⟨args ++ Array.replicate (fn.ntmps - args.size) undef, []⟩ [.code code]) (c :: cs)) v Q) : KCalls P B f args v R := fun c cs Q hq => by
  have := h c cs Q hq
  have e : Frame.enter P f args .normal = (Frame.enter P f args .normal).at ⟨args ++ Array.replicate (fn.ntmps - args.size) undef, []⟩ [.code code] := by
    simp [Frame.enter, Frame.at, hfn, hbody]
  rw [e]
  exact this
end Go.Proofs.Ytlpfogkfjjbklac.Lift
namespace Go.Proofs.Ytlpfogkfjjbklac.Lift
open Go.Conc Go.Proofs.Ytlpfogkfjjbklac.Crew
open Go.ConcN (sumTo upd sumTo_upd upd_ne upd_same)
open Go.ConcR (WgAt)
set_option linter.unusedVariables false
set_option linter.unusedSectionVars false
set_option linter.unusedSimpArgs false
variable {P : Program} {B : Nat} {S : Nat → Prop} {a a' : Goroutine} {v : World} {Q : Goroutine → World → Prop}

theorem _root_.Go.Proofs.Ytlpfogkfjjbklac.Crew.Fr.mono {Shun : Loc → Prop} {n m L : Nat} {t : Trace} (h : Fr Shun n t L) (hm : n ≤ m) : Fr Shun m t L := ⟨h.past.mono hm, h.quiet, h.known, h.gs⟩
theorem _root_.Go.Proofs.Ytlpfogkfjjbklac.Crew.Fr.congr {Shun Shun' : Loc → Prop} {n L : Nat} {t : Trace} (h : Fr Shun n t L) (he : ∀ l, Shun l ↔ Shun' l) : Fr Shun' n t L := by
  have : Shun = Shun' := funext fun l => propext (he l)
  exact this ▸ h

/-- Goroutine 0 makes a block: as far as is known of what was touched, all lies below it. -/
theorem make_step {gs : Array Goroutine} {w : World} {sl : Option (Nat × Nat)} {t : Trace} {q : Nat → Nat} {L : Nat} {o : Obj}
    (h0 : gs[0]? = some a) (hsz : gs.size = L + 1) (hL : Leavers P t gs q) (hF : Fr (shun S) w.heap.size t L) (hS : Sim S (re v w.tape w.drawn) w) (hrun : a.status = .running)
    (hstep : ∀ w, v.heap.size = w.heap.size → stepG P true a w = .go a' { w with heap := w.heap.push o } #[]) :
    ∃ N gs' w' sl' t' q', runNT P N (crowd gs w sl) t = (.next (crowd gs' { w' with heap := w'.heap.push o } sl'), t') ∧ gs'[0]? = some a' ∧ gs'.size = L + 1 ∧ Leavers P t' gs' q' ∧ Fr (shun S) w'.heap.size t' L ∧ Sim S (re v w'.tape w'.drawn) w' := by
  generalize hM : sumTo gs.size q = M
  induction M using Nat.strongRecOn generalizing gs w sl q t with
  | _ M ih =>
    have haw : ∀ g ∈ gs, awake g := by
      intro g hg
      obtain ⟨i, hi, rfl⟩ := Array.mem_iff_getElem.1 hg
      rcases Nat.eq_zero_or_pos i with rfl | hpos
      · have : gs[0] = a := by simpa [Array.getElem?_eq_getElem hi] using h0
        rw [this]; exact awake_of (.inl hrun)
      · exact awake_of ((hL.old i _ hpos (Array.getElem?_eq_getElem hi)).status.elim .inl fun x => .inr (.inr x))
    obtain ⟨i, g, d, sl', hi, hg, hst⟩ := crowd_pick (P := P) (w := w) (sl := sl) haw ⟨0, a, h0, hrun⟩
    have hSd : Sim S (re v (w.at d).tape (w.at d).drawn) (w.at d) := ⟨hS.size, hS.same, hS.gone, hS.os, hS.output, rfl, rfl⟩
    rcases Nat.eq_zero_or_pos i with rfl | hpos
    · obtain rfl : g = a := by rw [h0] at hi; exact (Option.some.inj hi).symm
      have hrunT := runT_crowd_go (P := P) (sl := sl') (i := 0) hi (show stepG P (0 == 0) g (w.at d) = _ from hstep (w.at d) hS.size)
      have hlt : 0 < gs.size := (Array.getElem?_eq_some_iff.1 h0).1
      have hnil : MemOp.ofEvents 0 g.frame.fn g.frame.place #[] = #[] := by rw [ofEvents_eq]; simp
      refine ⟨1, (gs.map (woken P g a' { (w.at d) with heap := (w.at d).heap.push o })).setIfInBounds 0 a', w.at d, sl', t, q, by simp only [runNT, hst, hrunT, hnil, Array.append_empty], by simp [hlt], by simp [hsz], ⟨fun j x hj hx => ?_, fun j hj => hL.above j (by simpa using hj)⟩, hF, hSd⟩
      rw [Array.getElem?_setIfInBounds_ne (by omega), Array.getElem?_map] at hx
      obtain ⟨y, hy, rfl⟩ := Option.map_eq_some_iff.1 hx
      have hq := hL.old j y hj hy
      rw [woken_quitsD hq]
      exact hq
    · obtain ⟨d', hd⟩ := beside_step (sl := sl) h0 hsz hL hF hS hrun
      -- the machine's step is a leaver's
      have hq := hL.old i g hpos hi
      have hi0 : (i == 0) = false := by simp; omega
      have hlt : i < gs.size := (Array.getElem?_eq_some_iff.1 hi).1
      cases hqi : q i with
      | zero => rw [hqi] at hq; rw [hq.1] at hg; cases hg
      | succ k =>
        rw [hqi] at hq
        rcases hq with ⟨hf, _⟩ | ⟨_, g', es, hm, hstp, hq'⟩
        · rw [hf] at hg; cases hg
        have hrunT := runT_crowd_go (P := P) (sl := sl') (i := i) hi (by rw [hi0]; exact hstp (w.at d))
        have hsum : sumTo gs.size (upd q i k) + (k + 1) = sumTo gs.size q + k := by
          have := sumTo_upd q k id hlt
          simpa [hqi] using this
        obtain ⟨N, gs'', w'', sl'', t'', q'', hr, rest⟩ := ih (sumTo gs.size (upd q i k)) (by omega) (gs := (gs.map (woken P g g' (w.at d))).setIfInBounds i g') (w := w.at d) (sl := sl') (q := upd q i k) (t := t ++ MemOp.ofEvents i g.frame.fn g.frame.place es)
          (by rw [Array.getElem?_setIfInBounds_ne (by omega), Array.getElem?_map, h0]; simp [woken_run hrun]) (by simp [hsz])
          ⟨fun j x hj hx => by
            by_cases hji : i = j
            · subst hji
              rw [Array.getElem?_setIfInBounds_self_of_lt (by simpa using hlt)] at hx
              obtain rfl := Option.some.inj hx
              rw [upd_same, Deaf_own]
              exact hq'
            · rw [Array.getElem?_setIfInBounds_ne hji, Array.getElem?_map] at hx
              obtain ⟨y, hy, rfl⟩ := Option.map_eq_some_iff.1 hx
              have hqj := hL.old j y hj hy
              rw [woken_quitsD hqj, upd_ne q k (Ne.symm hji), Deaf_other t hji _ (fun op hop => by obtain ⟨e, _, rfl⟩ := Go.Conc.mem_ofEvents hop; rfl)]
              exact hqj, fun j hj => by
            have h1 : gs.size ≤ j := by simpa using hj
            rw [Deaf_other t (g' := i) (by omega) _ (fun op hop => by obtain ⟨e, _, rfl⟩ := Go.Conc.mem_ofEvents hop; rfl)]
            exact hL.above j (by simpa using hj)⟩ (hF.mute (by omega) (by omega) hm) hSd (by simp)
        exact ⟨N + 1, gs'', w'', sl'', t'', q'', by simp only [runNT, hst, hrunT]; exact hr, rest⟩

/-- What is asked of who starts and who works, to come from the making of the group to behind the wait. -/
structure Band (P : Program) (B : Nat) (S : Nat → Prop) (L : Nat) (a : Goroutine) (w : World) (o : Obj) (Q : Goroutine → World → Prop) where
  C : Crew
  Head : Goroutine → World → Prop
  Anch : Goroutine → World → Prop
  prog : C.P = P
  old : C.old = L
  wg : C.Wg = w.heap.size
  bound : w.heap.size ≤ C.B
  ok : Ok C
  head : ∀ g w, Head g w → g.status = .running
  anch : ∀ g w, Anch g w → g.status = .running
  anchAt : ∀ g w d, Anch g (w.at d) → Anch g w
  round : ∀ g w, Head g w → ∃ m, Goes C.P true C.RC (C.DC C.last) (AtW1 C Head Anch) m g w
  sh : ∀ l, C.Sh l ↔ shun S l ∨ ∃ ad : Addr, l = .cell ad ∧ ad.block = C.Wg
  own : ∀ k l, C.Own k l → C.old < k
  rd : ∀ k l, C.Rd k l → C.old < k
  zero : WgAt C.ty C.Wg { w with heap := w.heap.push o } 0 0
  spawns : Spawns C (Waits C Head) (C.last - C.old) a { w with heap := w.heap.push o }
  goon : ∀ a' w', Anch a' w' → (∀ i, C.old ≤ i → i < C.last → C.Fin (i + 1) w') → C.B ≤ w'.heap.size ∧ ∃ v', Sim (fun b => S b ∨ b = C.Wg) (re v' w'.tape w'.drawn) w' ∧ K P B a' v' Q

theorem K.crew {o : Obj} (hB : ∀ S w, Sim S (Lift.re v w.tape w.drawn) w → B ≤ w.heap.size) (hrun : a.status = .running) (hstep : ∀ w, v.heap.size = w.heap.size → stepG P true a w = .go a' { w with heap := w.heap.push o } #[])
    (h : ∀ S L w, (∀ b, S b → B ≤ b) → Sim S (Lift.re v w.tape w.drawn) w → Nonempty (Band P B S L a' w o Q)) : K P B a v Q := K.bind fun S L m t hS hA => by
  obtain ⟨gs, w, sl, q, rfl, h0, hsz, hL, hF, hSim⟩ := hA.ex
  obtain ⟨N, gs', w', sl', t', q', hr, h0', hsz', hL', hF', hSim'⟩ := make_step (sl := sl) h0 hsz hL hF hSim hrun hstep
  obtain ⟨D⟩ := h S L w' hS hSim'
  have hp := D.prog
  have ho := D.old
  have hw := D.wg
  obtain ⟨N₂, gs₂, a₂, w₂, sl₂, t₂, q₂, hr₂, hsz₂, h0₂, hA₂, hfin, hL₂, hF₂⟩ := Crew.phase (C := D.C) (Head := D.Head) (Anch := D.Anch) (Shun := shun S) (B := w'.heap.size) (t := t') D.ok D.head D.anch D.anchAt D.round D.sh (by rw [hw]; exact Nat.le_refl _) D.bound D.own D.rd (gs := gs') (a := a') (w := { w' with heap := w'.heap.push o }) (q := q') sl' h0' (by rw [ho]; exact hsz') (by rw [hp]; exact hL') (by rw [ho]; exact hF') D.zero D.spawns
  obtain ⟨hb, v', hSim₂, hk⟩ := D.goon a₂ w₂ hA₂ hfin
  rw [hp] at hr₂ hL₂
  refine ⟨N + N₂, _, t₂, fun b => S b ∨ b = D.C.Wg, D.C.last, a₂, v', by rw [runNT_add, hr]; exact hr₂, fun b hb' => ?_, ⟨gs₂, w₂, sl₂, q₂, rfl, h0₂, hsz₂, hL₂, (hF₂.mono hb).congr fun l => ?_, hSim₂⟩, hk⟩
  · rcases hb' with hb' | hb'
    · exact hS b hb'
    · rw [hb', hw]; exact hB S w' hSim'
  · rw [D.sh]
    constructor
    · rintro (⟨ad, rfl, hs⟩ | ⟨ad, rfl, hs⟩)
      · exact ⟨ad, rfl, .inl hs⟩
      · exact ⟨ad, rfl, .inr hs⟩
    · rintro ⟨ad, rfl, hs | hs⟩
      · exact .inl ⟨ad, rfl, hs⟩
      · exact .inr ⟨ad, rfl, hs⟩
end Go.Proofs.Ytlpfogkfjjbklac.Lift
namespace Go.Proofs.Ytlpfogkfjjbklac.Lift
open Go.Conc Go.Proofs.Ytlpfogkfjjbklac.Crew
set_option linter.unusedVariables false
set_option linter.unusedSectionVars false
set_option linter.unusedSimpArgs false
variable {P : Program} {B : Nat} {a : Goroutine} {W : World} {Q : Goroutine → World → Prop}

theorem nr0 (said : Bool) : ¬ Race said (#[] : Trace) := by
  rintro ⟨i, j, _, ⟨a, b, ha, _⟩, _⟩
  simp [Trace.act?] at ha
theorem at_start (P : Program) (a : Goroutine) (W : World) : At P (fun _ => False) a W 0 (solo a W) #[] :=
  ⟨#[a], W, none, fun _ => 0, rfl, rfl, rfl, ⟨fun i g hi hg => by
    have := (Array.getElem?_eq_some_iff.1 hg).1
    simp at this; omega, fun j _ => Go.ConcN.Deaf_absent fun i op hi => by simp at hi⟩,
    ⟨⟨fun said => nr0 said, fun i x hx => absurd hx (by simp [touchAt, Trace.act?]), fun i g hg => by simp [Trace.g?] at hg, Go.ConcN.Deaf_absent fun i op hi => by simp at hi, fun op hop => by simp at hop⟩, fun i op x hi => by simp at hi, fun i x hx => absurd hx (by simp [touchAt, Trace.act?]), fun i op hi => by simp at hi⟩,
    ⟨rfl, fun _ _ => rfl, fun _ h => h.elim, rfl, rfl, rfl, rfl⟩⟩
/-- Where the law's own frame is left. -/
def AtRet (P : Program) (B : Nat) (Post : Value → World → Prop) (a : Goroutine) (v : World) : Prop :=
  ∃ (b : Frame) (tmps : Array Value) (todo : List Item) (fn : Func) (x : Value), a = G (rf b tmps todo) [] ∧ b.kind = .normal ∧ P.funcs[b.fn]? = some fn ∧ P.inits.idxOf? b.fn = none ∧ results fn tmps = .pure x ∧ ∀ S w, (∀ b, S b → B ≤ b) → Sim S (re v w.tape w.drawn) w → Post x w
theorem K.done {Post : Value → World → Prop} (hk : K P B a W (AtRet P B Post)) :
    ∃ M last o w' t', runNT P (M + 1) (solo a W) #[] = (.ended o w', t') ∧ runN P M (solo a W) = .next last ∧ Go.step P last = .ended o w' ∧ Good P Post last o w' t' := by
  obtain ⟨N, m, t, S, L, a', v', hr, hS, hA, b, tmps, todo, fn, x, rfl, hb, hfn, hin, hx, hpost⟩ := hk _ _ _ _ (fun _ h => h.elim) (at_start P a W)
  obtain ⟨gs, w, sl, q, rfl, h0, hsz, hL, hF, hSim⟩ := hA.ex
  have hend : ∀ w, stepG P true (G (rf b tmps todo) []) w = .ended (.done x) w #[] := fun w => by
    simp only [rf, Frame.at, G, stepG, unwind, hfn, hx, Sem.runT, doReturn, hb]
    simp [GStep.after, seen, hin]
  obtain ⟨M, last, o, w', t', h1, h2, h3, h4⟩ := beside_ends (P := P) (Shun := shun S) (B := w.heap.size) (D := fun _ _ _ => False) (Post := Post) (fun _ _ _ h => h.elim) (sl := sl) (n := 0) h0 hL hF.past (w := w) (fun w₁ hr₁ => by
    obtain ⟨d, rfl⟩ := hr₁
    exact ⟨rfl, x, #[], hend _, by simp, hpost S _ hS ⟨hSim.size, hSim.same, hSim.gone, hSim.os, hSim.output, rfl, rfl⟩⟩)
  have hrn : runN P N (solo a W) = .next (crowd gs w sl) := by rw [← runNT_fst P N (solo a W) #[], hr]
  exact ⟨N + M, last, o, w', t', by rw [show N + M + 1 = N + (M + 1) by omega, runNT_add, hr]; exact h1, by rw [runN_add, hrn]; exact h2, h3, h4⟩
end Go.Proofs.Ytlpfogkfjjbklac.Lift
namespace Go.Proofs.Ytlpfogkfjjbklac.Lift
open Go.Conc Go.Proofs.Ytlpfogkfjjbklac.Crew Go.RowKit
set_option linter.unusedVariables false
/-- Tape aside, nothing below has turned. -/
structure Blw (N : Nat) (v v' : World) : Prop where
  os : v'.os = v.os
  output : v'.output = v.output
  size : v.heap.size ≤ v'.heap.size
  block : ∀ k, k < N → v'.heap[k]? = v.heap[k]?
theorem Blw.refl (N : Nat) (v : World) : Blw N v v := ⟨rfl, rfl, Nat.le_refl _, fun _ _ => rfl⟩
theorem Blw.trans {N : Nat} {u v w : World} (h : Blw N u v) (k : Blw N v w) : Blw N u w := ⟨k.os.trans h.os, k.output.trans h.output, Nat.le_trans h.size k.size, fun i hi => (k.block i hi).trans (h.block i hi)⟩
theorem Blw.mono {N M : Nat} {v w : World} (h : Blw N v w) (hm : M ≤ N) : Blw M v w := ⟨h.os, h.output, h.size, fun k hk => h.block k (by omega)⟩
theorem Blw.of {N : Nat} {v w : World} (h : Below N v w) : Blw N v w := ⟨h.os, h.output, h.size, h.block⟩
theorem Blw.re {N : Nat} {v w : World} {τ : Nat → Question → Nat} {d : Nat} (h : Blw N (Lift.re v τ d) w) : Blw N v w := ⟨h.os, h.output, h.size, h.block⟩
theorem Blw.below {N : Nat} {v w : World} (h : Blw N v w) : Below N v (Lift.re w v.tape w.drawn) := ⟨h.os, rfl, h.output, h.size, h.block⟩
theorem Blw.next {w V V' : World} (h : Blw w.heap.size w V) (b : Below V.heap.size V V') : Blw w.heap.size w V' := h.trans ((Blw.of b).mono h.size)
theorem Blw.at {N : Nat} {w W V : World} {τ : Nat → Question → Nat} {d : Nat} (h : Blw N w W) (e : Lift.re W τ d = V) : Blw N w V := e ▸ ⟨h.os, h.output, h.size, h.block⟩
theorem Blw.frame {W w' : World} (h : Blw W.heap.size W w') (may : MemPlace → Prop) : W.keptBut w' may := by
  have := h.below.frame may
  exact ⟨h.os, h.output, this.2.2⟩
theorem Blw.sim {N B : Nat} {v v' w : World} {S : Nat → Prop} (h : Blw N v v') (hN : N ≤ B) (hS : ∀ b, S b → B ≤ b) (hs : Sim S (Lift.re v' w.tape w.drawn) w) : Blw N v w := ⟨hs.os.symm.trans h.os, hs.output.symm.trans h.output, by have := hs.size; have := h.size; simp only [re_heap] at *; omega, fun k hk => (hs.same k (fun hk' => by have := hS k hk'; omega)).symm.trans (h.block k hk)⟩
theorem K.unre {P : Program} {B : Nat} {a : Goroutine} {v : World} {Q : Goroutine → World → Prop} {τ : Nat → Question → Nat} {d : Nat} (h : K P B a v Q) : K P B a (Lift.re v τ d) Q := K.re (τ := v.tape) (d := v.drawn) h
theorem K.cast {P : Program} {B : Nat} {a a' : Goroutine} {v : World} {Q : Goroutine → World → Prop} (h : K P B a' v Q) (e : a = a') : K P B a v Q := e ▸ h
end Go.Proofs.Ytlpfogkfjjbklac.Lift
namespace Go.Proofs.Ytlpfogkfjjbklac.Lift
open Go.Conc Go.Proofs.Ytlpfogkfjjbklac.Crew
set_option linter.unusedVariables false
set_option linter.unusedSectionVars false
set_option linter.unusedSimpArgs false
variable {P : Program} {B : Nat} {T : FuncId → Prop} {v : World} {Q : Goroutine → World → Prop}
def spine1 : Code → List Code → Code
  | c, [] => c
  | c, d :: l => .seq c (spine1 d l)
def spine : List Code → Code → Code
  | [], r => r
  | c :: l, r => .seq c (spine l r)
section
variable (P : Program) (T : FuncId → Prop) (b : Frame) (rest : Code) (k : List Item) (cs : List Frame)
inductive TwS : Goroutine → Goroutine → Prop
  | a (c : Code) (l : List Code) {h g : Goroutine} : (∀ x ∈ c :: l, CodeT P T x) → Tw P T b (.code (spine1 c l) :: kS) (.code (spine (c :: l) rest) :: k) cs h g → TwS h g
  | z {h g : Goroutine} : Tw P T b kS (.code rest :: k) cs h g → TwS h g
end
section
variable {b : Frame} {rest : Code} {k : List Item} {cs : List Frame}
theorem tws_form {h g : Goroutine} (ht : TwS P T b rest k cs h g) : (∃ fr c, h = G fr c) ∧ ∃ fr c, g = G fr c := by
  cases ht with
  | a c l _ ht => exact tw_form ht
  | z ht => exact tw_form ht
theorem bothS (hF : Fns P T) (hb : b.kind = .normal) {h g : Goroutine} (ht : TwS P T b rest k cs h g) (hf : ¬ Fin b h) :
    ∃ g', (g = g' ∨ (g.status = .running ∧ ∀ v, stepG P true g v = .go g' v #[])) ∧ g'.status = .running ∧ Both P T (TwS P T b rest k cs) h g' := by
  have f1 : ∀ tmps, h ≠ G (bf b tmps kS) [c0] := fun tmps e => hf (.inl ⟨tmps, e⟩)
  have f2 : ∀ tmps todo, h ≠ G (rf b tmps todo) [c0] := fun tmps todo e => hf (.inr ⟨tmps, todo, e⟩)
  cases ht with
  | z ht => exact ⟨g, .inl rfl, by obtain ⟨_, fr, c, rfl⟩ := tw_form ht; rfl, (Lift.both hF hb (fun _ => rfl) ht f1 f2).mono fun _ _ => .z⟩
  | a c l hc ht =>
    have run : g.status = .running := by obtain ⟨_, fr, c, rfl⟩ := tw_form ht; rfl
    by_cases he : ∃ tmps, h = G (bf b tmps (.code (spine1 c l) :: kS)) [c0]
    · obtain ⟨tmps, rfl⟩ := he
      have hg : g = G (bf b tmps (.code (spine (c :: l) rest) :: k)) cs := by
        generalize hh : G (bf b tmps (.code (spine1 c l) :: kS)) [c0] = h at ht
        cases ht with
        | top tmps' pre hp =>
          have e1 : tmps = tmps' := congrArg (fun g : Goroutine => g.frame.tmps) hh
          have e2 : .code (spine1 c l) :: kS = pre ++ .code (spine1 c l) :: kS := congrArg (fun g : Goroutine => g.frame.todo) hh
          subst e1
          have e3 := congrArg List.length e2
          simp at e3
          subst e3
          rfl
        | up fr fs tmps' ops i rest pre hst hp =>
          have := congrArg (fun g : Goroutine => g.callers.length) hh
          simp [G] at this
        | ret tmps' pre => have := congrArg (fun g : Goroutine => g.frame.mode) hh; simp [G, bf, rf, Frame.at] at this
      subst hg
      have hcc := hc c List.mem_cons_self
      have one : ∀ x ∈ [Item.code c], ItemT P T x := fun x hx => by simp only [List.mem_singleton] at hx; subst hx; exact hcc
      cases l with
      | nil => exact ⟨G (bf b tmps ([.code c] ++ .code rest :: k)) cs, .inr ⟨run, fun v => by simp [bf, Frame.at, G, stepG, stepG.exec, spine]⟩, rfl, (Lift.both hF hb (fun _ => rfl) (Tw.top tmps [.code c] one) f1 f2).mono fun _ _ => .z⟩
      | cons d l => exact ⟨_, .inl rfl, rfl, .ctl (G (bf b tmps ([.code c] ++ .code (spine1 d l) :: kS)) [c0]) (G (bf b tmps ([.code c] ++ .code (spine (d :: l) rest) :: k)) cs) (.a d l (fun x hx => hc x (List.mem_cons_of_mem _ hx)) (.top tmps [.code c] one)) (fun v => by simp [bf, Frame.at, G, stepG, stepG.exec, spine1]) (fun v => by simp [bf, Frame.at, G, stepG, stepG.exec, spine])⟩
    · exact ⟨g, .inl rfl, run, (Lift.both hF hb (fun _ => rfl) ht (fun tmps e => he ⟨tmps, e⟩) f2).mono fun _ _ => .a c l hc⟩
def pairS (hF : Fns P T) (hb : b.kind = .normal) (hres : ResOk P b.fn) (rest : Code) (k : List Item) (cs : List Frame) : Pair P T where
  R := TwS P T b rest k cs
  fin := Fin b
  form := tws_form
  both := bothS hF hb
  calm := fun h hf => fin_calm hf
  never := fun h v n h' v' hf hr => fin_never hb hres hf hr
  halt := (pairT hF hb hres k cs).halt
theorem tws_bf {tmps : Array Value} {g : Goroutine} (hg : TwS P T b rest k cs (G (bf b tmps kS) [c0]) g) : g = G (bf b tmps (.code rest :: k)) cs := by
  cases hg with
  | z ht => exact tw_bf ht
  | a c l hc ht =>
    generalize hh : G (bf b tmps kS) [c0] = h at ht
    cases ht with
    | top tmps' pre hp =>
      have e2 : kS = pre ++ .code (spine1 c l) :: kS := congrArg (fun g : Goroutine => g.frame.todo) hh
      have := congrArg List.length e2
      simp [kS] at this
    | up fr fs tmps' ops i rest pre hst hp =>
      have := congrArg (fun g : Goroutine => g.callers.length) hh
      simp [G] at this
    | ret tmps' pre => have := congrArg (fun g : Goroutine => g.frame.mode) hh; simp [G, bf, rf, Frame.at] at this
theorem tws_rf {tmps : Array Value} {todo : List Item} {g : Goroutine} (hg : TwS P T b rest k cs (G (rf b tmps todo) [c0]) g) : ∃ todo', g = G (rf b tmps todo') cs := by
  have key : ∀ {kL k : List Item}, Tw P T b kL k cs (G (rf b tmps todo) [c0]) g → ∃ todo', g = G (rf b tmps todo') cs := by
    intro kL k hg
    generalize hh : G (rf b tmps todo) [c0] = h at hg
    cases hg with
    | top tmps' pre hp => have := congrArg (fun g : Goroutine => g.frame.mode) hh; simp [G, bf, rf, Frame.at] at this
    | up fr fs tmps' ops i rest pre hst hp =>
      have := congrArg (fun g : Goroutine => g.callers.length) hh
      simp [G] at this
    | ret tmps' pre =>
      have e1 : tmps = tmps' := congrArg (fun g : Goroutine => g.frame.tmps) hh
      subst e1
      exact ⟨_, rfl⟩
  cases hg with
  | z ht => exact key ht
  | a c l hc ht => exact key ht
/-- What is asked where the statements are left. -/
def LeftS (P : Program) (B : Nat) (b : Frame) (k : List Item) (cs : List Frame) (Q : Goroutine → World → Prop) (e : Exit) (a : Act) (w : World) : Prop :=
  (e = .normal ∧ a.defers = [] ∧ K P B (G (b.at a k) cs) w Q) ∨ (e = .ret ∧ a.defers = [] ∧ ∀ todo, K P B (G (rf b a.tmps todo) cs) w Q)
theorem K.segs (hF : Fns P T) (hb : b.kind = .normal) (hres : ResOk P b.fn) {c : Code} {l : List Code} (hc : ∀ x ∈ c :: l, CodeT P T x) {tmps : Array Value}
    (hw : ∀ τ, (spine1 c l).wp P (LeftS P B b (.code rest :: k) cs Q) ⟨tmps, []⟩ (Lift.re v τ 0)) : K P B (G (b.at ⟨tmps, []⟩ (.code (spine (c :: l) rest) :: k)) cs) v Q := by
  have hts : TwS P T b rest k cs (G (bf b tmps ([] ++ .code (spine1 c l) :: kS)) [c0]) (G (bf b tmps ([] ++ .code (spine (c :: l) rest) :: k)) cs) := .a c l hc (.top tmps [] (by simp))
  refine K.pair hF (pairS hF hb hres rest k cs) hts fun τ => ?_
  obtain ⟨e, a', w', hq, harr⟩ := hw τ b kS [c0]
  obtain ⟨tm, ds⟩ := a'
  rcases hq with ⟨rfl, hd, hk⟩ | ⟨rfl, hd, hk⟩
  · have hd' : ds = [] := hd
    subst hd'
    obtain ⟨n, hn⟩ := harr
    refine ⟨n, G (bf b tm kS) [c0], w', hn, .inl ⟨tm, rfl⟩, fun g' hg' => ?_⟩
    rw [tws_bf hg']
    exact hk
  · have hd' : ds = [] := hd
    subst hd'
    obtain ⟨todo, n, hn⟩ := harr
    refine ⟨n, G (rf b tm todo) [c0], w', hn, .inr ⟨tm, todo, rfl⟩, fun g' hg' => ?_⟩
    obtain ⟨pre, rfl⟩ := tws_rf hg'
    exact hk pre
end
end Go.Proofs.Ytlpfogkfjjbklac.Lift
namespace Go.Proofs.Ytlpfogkfjjbklac.Lift
open Go.Conc Go.Proofs.Ytlpfogkfjjbklac.Crew
set_option linter.unusedVariables false
set_option linter.unusedSectionVars false
set_option linter.unusedSimpArgs false
variable {P : Program} {B : Nat} {T : FuncId → Prop} {v : World} {fn : FuncId} {tmps : Array Value} {Q Q' : Exit → Act → World → Prop}
/-- What comes behind a piece of code. -/
def Cont (P : Program) (B : Nat) (b : Frame) (k : List Item) (cs : List Frame) (QQ : Goroutine → World → Prop) (e : Exit) (a : Act) (w : World) : Prop :=
  a.defers = [] ∧ match e with
    | .normal => K P B (G (b.at a k) cs) w QQ
    | .exit id => ∃ k', exitTo id k = some k' ∧ K P B (G (b.at a k') cs) w QQ
    | .ret => ∀ todo, K P B (G (rf b a.tmps todo) cs) w QQ
    | _ => False
def KW (P : Program) (B : Nat) (fn : FuncId) (c : Code) (Q : Exit → Act → World → Prop) (tmps : Array Value) (v : World) : Prop :=
  ∀ (b : Frame) (k : List Item) (cs : List Frame) (QQ : Goroutine → World → Prop), b.fn = fn → b.kind = .normal → (∀ e a w, Q e a w → Cont P B b k cs QQ e a w) → K P B (G (b.at ⟨tmps, []⟩ (.code c :: k)) cs) v QQ
theorem act_eq {a : Act} (h : a.defers = []) : a = ⟨a.tmps, []⟩ := by
  obtain ⟨t, d⟩ := a
  simp only at h
  subst h
  rfl
theorem KW.mono {c : Code} (h : KW P B fn c Q tmps v) (hq : ∀ e a w, Q e a w → Q' e a w) : KW P B fn c Q' tmps v := fun b k cs QQ h1 h2 h3 => h b k cs QQ h1 h2 fun e a w hx => h3 e a w (hq e a w hx)
theorem KW.unre {c : Code} {τ : Nat → Question → Nat} {d : Nat} (h : KW P B fn c Q tmps v) : KW P B fn c Q tmps (Lift.re v τ d) := fun b k cs QQ h1 h2 h3 => K.unre (h b k cs QQ h1 h2 h3)
theorem KW.skip (h : Q .normal ⟨tmps, []⟩ v) : KW P B fn .skip Q tmps v := fun b k cs QQ h1 h2 h3 => K.skip (h3 _ _ _ h).2
theorem KW.label {l : Nat} (h : Q .normal ⟨tmps, []⟩ v) : KW P B fn (.label l) Q tmps v := fun b k cs QQ h1 h2 h3 => K.label (h3 _ _ _ h).2
theorem KW.ret (h : Q .ret ⟨tmps, []⟩ v) : KW P B fn .ret Q tmps v := fun b k cs QQ h1 h2 h3 => K.ret ((h3 _ _ _ h).2 _)
theorem KW.exit {id : Nat} (h : Q (.exit id) ⟨tmps, []⟩ v) : KW P B fn (.exit id) Q tmps v := fun b k cs QQ h1 h2 h3 => let ⟨k', he, hk⟩ := (h3 _ _ _ h).2; K.exit he hk
theorem KW.cond {c : Operand} {x y : Code} (t : Bool) (hc : Act.eval ⟨tmps, []⟩ c = .bool t) (h : KW P B fn (if t then x else y) Q tmps v) : KW P B fn (.cond c x y) Q tmps v := fun b k cs QQ h1 h2 h3 => K.cond t hc (h b k cs QQ h1 h2 h3)
/-- What is asked behind the first of two. -/
def ThenK (P : Program) (B : Nat) (fn : FuncId) (y : Code) (Q : Exit → Act → World → Prop) (e : Exit) (a : Act) (w : World) : Prop :=
  a.defers = [] ∧ match e with
    | .normal => KW P B fn y Q a.tmps w
    | e => Q e a w
theorem KW.seq {x y : Code} (h : KW P B fn x (ThenK P B fn y Q) tmps v) : KW P B fn (.seq x y) Q tmps v := fun b k cs QQ h1 h2 h3 => by
  refine K.seq (h b (.code y :: k) cs QQ h1 h2 fun e a w ⟨hd, hx⟩ => ⟨hd, ?_⟩)
  cases e with
  | normal =>
    have := hx b k cs QQ h1 h2 h3
    rw [act_eq hd]
    exact this
  | exit id => exact (h3 _ _ _ hx).2
  | ret => exact (h3 _ _ _ hx).2
  | _ => exact (h3 _ _ _ hx).2
/-- What is asked inside a block. -/
def InB (id : Nat) (Q : Exit → Act → World → Prop) (e : Exit) (a : Act) (w : World) : Prop :=
  match e with
    | .exit j => if id = j then Q .normal a w else Q (.exit j) a w
    | e => Q e a w
theorem KW.block {id : Nat} {x : Code} (h : KW P B fn x (InB id Q) tmps v) : KW P B fn (.block id x) Q tmps v := fun b k cs QQ h1 h2 h3 => by
  refine K.block (h b (.inBlock id :: k) cs QQ h1 h2 fun e a w hx => ?_)
  cases e with
  | normal =>
    have := h3 _ _ _ hx
    refine ⟨this.1, ?_⟩
    rw [act_eq this.1]
    refine K.blockEnd ?_
    rw [← act_eq this.1]
    exact this.2
  | exit j =>
    simp only [InB] at hx
    by_cases hj : id = j
    · rw [if_pos hj] at hx
      have := h3 _ _ _ hx
      exact ⟨this.1, k, by simp [exitTo, hj], this.2⟩
    · rw [if_neg hj] at hx
      obtain ⟨hd, k', he, hk⟩ := h3 _ _ _ hx
      exact ⟨hd, k', by simp only [exitTo]; rw [if_neg (by simpa using hj)]; exact he, hk⟩
  | ret => exact h3 _ _ _ hx
  | _ => exact h3 _ _ _ hx
/-- What is asked behind a round: it goes on with less. -/
def Round (n : Nat) (I : Nat → Array Value → World → Prop) (Q : Exit → Act → World → Prop) (e : Exit) (a : Act) (w : World) : Prop :=
  a.defers = [] ∧ match e with
    | .normal => ∃ m, m < n ∧ I m a.tmps w
    | e => Q e a w
theorem KW.loop {x : Code} (I : Nat → Array Value → World → Prop) (n : Nat) (h0 : I n tmps v) (h : ∀ n tmps v, I n tmps v → KW P B fn x (Round n I Q) tmps v) : KW P B fn (.loop x) Q tmps v := fun b k cs QQ h1 h2 h3 => by
  refine K.loop ?_
  induction n using Nat.strongRecOn generalizing tmps v with
  | _ n ih =>
    refine h n tmps v h0 b (.inLoop x :: k) cs QQ h1 h2 fun e a w ⟨hd, hx⟩ => ⟨hd, ?_⟩
    cases e with
    | normal =>
      obtain ⟨m, hm, hI⟩ := hx
      show K P B (G (b.at a (.inLoop x :: k)) cs) w QQ
      rw [act_eq hd]
      exact K.round (ih m hm hI)
    | exit id => exact (h3 _ _ _ hx).2
    | ret => exact (h3 _ _ _ hx).2
    | _ => exact (h3 _ _ _ hx).2
/-- What is asked behind tame code: it comes through, or returns. -/
def Out (Q : Exit → Act → World → Prop) (e : Exit) (a : Act) (w : World) : Prop := (e = .normal ∧ a.defers = [] ∧ Q .normal a w) ∨ (e = .ret ∧ a.defers = [] ∧ Q .ret a w)
theorem KW.tame (hF : Fns P T) (hres : ResOk P fn) {c : Code} (hc : CodeT P T c) (hw : ∀ τ, c.wp P (Out Q) ⟨tmps, []⟩ (Lift.re v τ 0)) : KW P B fn c Q tmps v := fun b k cs QQ h1 h2 h3 => by
  subst h1
  refine K.seg hF h2 hres hc fun τ => wp_mono (hw τ) fun e a w hx => ?_
  rcases hx with ⟨rfl, hd, hx⟩ | ⟨rfl, hd, hx⟩
  · exact .inl ⟨rfl, hd, (h3 _ _ _ hx).2⟩
  · exact .inr ⟨rfl, hd, fun pre => (h3 _ _ _ hx).2 _⟩
/-- What is asked behind some tame statements: the rest, or it returns. -/
def OutK (P : Program) (B : Nat) (fn : FuncId) (y : Code) (Q : Exit → Act → World → Prop) (e : Exit) (a : Act) (w : World) : Prop := (e = .normal ∧ a.defers = [] ∧ KW P B fn y Q a.tmps w) ∨ (e = .ret ∧ a.defers = [] ∧ Q .ret a w)
theorem KW.group (hF : Fns P T) (hres : ResOk P fn) {c rest : Code} {l : List Code} (hc : ∀ x ∈ c :: l, CodeT P T x) (hw : ∀ τ, (spine1 c l).wp P (OutK P B fn rest Q) ⟨tmps, []⟩ (Lift.re v τ 0)) : KW P B fn (spine (c :: l) rest) Q tmps v := fun b k cs QQ h1 h2 h3 => by
  subst h1
  refine K.segs hF h2 hres hc fun τ => wp_mono (hw τ) fun e a w hx => ?_
  rcases hx with ⟨rfl, hd, hx⟩ | ⟨rfl, hd, hx⟩
  · refine .inl ⟨rfl, hd, ?_⟩
    rw [act_eq hd]
    exact hx b k cs QQ rfl h2 h3
  · exact .inr ⟨rfl, hd, (h3 _ _ _ hx).2⟩
theorem wpOps_list {ops : Array Oper} {Q : Exit → Act → World → Prop} : ∀ (l : List Nat) (m : List Oper), l.map (fun i => ops[i]?) = m.map some → wpOps P ops Q l = wpList P ops Q m
  | [], [], _ => by funext a w; simp [wpOps, wpList]
  | [], _ :: _, h => by simp at h
  | _ :: _, [], h => by simp at h
  | i :: l, o :: m, h => by
    simp only [List.map_cons, List.cons.injEq] at h
    have ih := wpOps_list (Q := Q) l m h.2
    funext a w
    simp only [wpOps, h.1, wpList, ih]
theorem range_parts (m1 m2 : List Oper) (o : Oper) : List.range (m1 ++ o :: m2).toArray.size = List.range m1.length ++ (m1.length :: List.range' (m1.length + 1) m2.length) := by
  rw [List.range_eq_range', List.range_eq_range', ← List.range'_succ]
  have := List.range'_append_1 (s := 0) (m := m1.length) (n := m2.length + 1)
  rw [Nat.zero_add] at this
  rw [this]
  simp
theorem get_left (m1 m2 : List Oper) : (List.range m1.length).map (fun i => (m1 ++ m2).toArray[i]?) = m1.map some := by
  refine List.ext_getElem? fun i => ?_
  simp only [List.getElem?_map, List.getElem?_toArray]
  by_cases h : i < m1.length
  · rw [List.getElem?_range h, List.getElem?_eq_getElem h]; simp [List.getElem?_append_left h, h]
  · rw [List.getElem?_eq_none (by simp; omega), List.getElem?_eq_none (by omega)]; rfl
theorem get_right (m1 m2 : List Oper) : (List.range' m1.length m2.length).map (fun i => (m1 ++ m2).toArray[i]?) = m2.map some := by
  refine List.ext_getElem? fun i => ?_
  simp only [List.getElem?_map, List.getElem?_toArray]
  by_cases h : i < m2.length
  · rw [List.getElem?_range' h, List.getElem?_eq_getElem h]; simp [List.getElem?_append_right, h]
  · rw [List.getElem?_eq_none (by simp; omega), List.getElem?_eq_none (by omega)]; rfl
theorem upon_mono {o : Oper} {a : Act} {next next' : Act → World → Prop} {r : Result Next} (hn : ∀ a w, next a w → next' a w) (hq : ∀ e a w, Q e a w → Q' e a w) (h : o.upon P a next Q r) : o.upon P a next' Q' r := by
  have lo : LetsOut Q → LetsOut Q' := fun ⟨a, w, h⟩ => ⟨a, w, hq _ _ _ h⟩
  unfold Oper.upon at h ⊢
  split at h
  · exact hn _ _ h
  · exact hn _ _ h
  · exact hn _ _ h
  · refine Calls.mono h fun e w' hx => ?_
    cases e with
    | returned v => exact hn _ _ hx
    | panicked c => exact hq _ _ _ hx
    | outgrown => exact lo hx
  · exact fun c cs => let ⟨v, w', r, s⟩ := h c cs; ⟨v, w', hn _ _ r, s⟩
  · exact hq _ _ _ h
  · exact h.elim
theorem wpList_mono {ops : Array Oper} : ∀ {l : List Oper} {a : Act} {w : World}, wpList P ops Q l a w → (∀ e a w, Q e a w → Q' e a w) → wpList P ops Q' l a w
  | [], a, w, h, hq => hq _ _ _ h
  | o :: l, a, w, h, hq => by
    simp only [wpList] at h ⊢
    split at h
    · rename_i hw
      rw [if_pos hw]
      rcases h with h | ⟨h1, h2⟩
      · exact .inl (upon_mono (fun a w hx => wpList_mono hx hq) hq h)
      · exact .inr ⟨h1, let ⟨a, w, h⟩ := h2; ⟨a, w, hq _ _ _ h⟩⟩
    · rename_i hw
      rw [if_neg hw]
      exact wpList_mono h hq
/-- A statement with a call of a function that starts others. -/
theorem KW.call (hF : Fns P T) {id : Nat} {m1 m2 : List Oper} {o : Oper} {z : Code} (ok1 : ∀ x ∈ m1, OpT P T x) (ok2 : ∀ x ∈ m2, OpT P T x) {f : FuncId} {args : Act → Array Value} (hwant : ∀ ys, Region.wanted o ys = true)
    (he : ∀ tm w, (execOp (Act.eval ⟨tm, []⟩) o).runT P w #[] = (.ok (.enter f (args ⟨tm, []⟩)) w, #[]))
    (hw : ∀ τ, wpList P (m1 ++ o :: m2).toArray (fun e a w => e = .normal ∧ a.defers = [] ∧ KCalls P B f (args a) w fun r w2 => ∀ τ', wpList P (m1 ++ o :: m2).toArray (fun e a w => e = .normal ∧ a.defers = [] ∧ KW P B fn z Q a.tmps w) m2 (a.put o.dst r) (Lift.re w2 τ' 0)) m1 ⟨tmps, []⟩ (Lift.re v τ 0)) :
    KW P B fn (.seq (.region id (m1 ++ o :: m2).toArray false) z) Q tmps v := fun b k cs QQ h1 h2 h3 => by
  refine K.seq (K.region ?_)
  rw [range_parts]
  have oki : ∀ (l : List Nat) (m : List Oper), l.map (fun i => (m1 ++ o :: m2).toArray[i]?) = m.map some → (∀ x ∈ m, OpT P T x) → OkI P T (m1 ++ o :: m2).toArray l := by
    intro l m hl hm i hi x hx
    have : (m1 ++ o :: m2).toArray[i]? ∈ m.map some := by rw [← hl]; exact List.mem_map_of_mem hi
    rw [hx] at this
    obtain ⟨y, hy, e⟩ := List.mem_map.1 this
    injection e with e
    exact e ▸ hm y hy
  have e1 := get_left m1 (o :: m2)
  have e2 : (List.range' (m1.length + 1) m2.length).map (fun i => (m1 ++ o :: m2).toArray[i]?) = m2.map some := by
    have := get_right (m1 ++ [o]) m2
    simpa using this
  refine K.begin hF h2 (oki _ _ e1 ok1) fun τ => ?_
  rw [wpOps_list _ _ e1]
  refine wpList_mono (hw τ) fun e a w hx => ?_
  obtain ⟨rfl, hd, hk⟩ := hx
  refine ⟨rfl, hd, ?_⟩
  rw [act_eq hd]
  have ho : (m1 ++ o :: m2).toArray[m1.length]? = some o := by simp
  refine K.call h2 ho (hwant _) (he a.tmps) (by rw [← act_eq hd]; exact hk) fun x v' hx' => ?_
  have hput : (Act.put ⟨a.tmps, []⟩ o.dst x) = ⟨(Act.put ⟨a.tmps, []⟩ o.dst x).tmps, []⟩ := by cases o.dst <;> rfl
  rw [hput]
  have := K.begin (Q := QQ) (B := B) (b := b) (rest := []) (k := .code z :: k) (cs := cs) (v := v') hF h2 (oki _ _ e2 ok2) (tmps := (Act.put ⟨a.tmps, []⟩ o.dst x).tmps) fun τ' => ?_
  · rw [List.append_nil] at this
    exact this
  rw [wpOps_list _ _ e2]
  have h6 := hx' τ'
  rw [act_eq hd, hput] at h6
  refine wpList_mono h6 fun e a w hx => ?_
  obtain ⟨rfl, hd, hk⟩ := hx
  refine ⟨rfl, hd, ?_⟩
  rw [act_eq hd]
  exact K.regionEnd (hk b k cs QQ h1 h2 h3)
/-- What is asked where a function's body is left. -/
def RetOf (P : Program) (f : FuncId) (R : Value → World → Prop) (e : Exit) (a : Act) (w : World) : Prop := (e = .normal ∨ e = .ret) ∧ a.defers = [] ∧ ∃ fd x, P.funcs[f]? = some fd ∧ results fd a.tmps = .pure x ∧ R x w
/-- A function by its body. -/
theorem KCalls.of_kw {f : FuncId} {fd : Func} {code : Code} {args : Array Value} (hfn : P.funcs[f]? = some fd) (hbody : fd.body = some code) {R : Value → World → Prop}
    (h : KW P B f code (RetOf P f R) (args ++ Array.replicate (fd.ntmps - args.size) undef) v) : KCalls P B f args v R := by
  refine KCalls.body hfn hbody fun c cs Q hq => ?_
  refine h _ [] (c :: cs) Q (by simp [Frame.enter]) (by simp [Frame.enter]) fun e a w hx => ?_
  obtain ⟨he, hd, fd', x, hfn', hres, hR⟩ := hx
  obtain rfl : fd = fd' := by rw [hfn] at hfn'; exact Option.some.inj hfn'
  have back : ∀ todo, K P B (G (rf (Frame.enter P f args .normal) a.tmps todo) (c :: cs)) w Q := fun todo => K.back (by simp [Frame.enter]) (by simpa [Frame.enter] using hfn) hres (hq x w hR)
  rcases he with rfl | rfl
  · refine ⟨hd, ?_⟩
    show K P B (G (Frame.at _ a []) (c :: cs)) w Q
    rw [act_eq hd]
    exact K.fall (back _)
  · exact ⟨hd, back⟩
/-- A law by its body. -/
theorem KW.law {f : FuncId} {fd : Func} {code : Code} {args : Array Value} {W : World} {ans : Value} (hfn : P.funcs[f]? = some fd) (hbody : fd.body = some code) (hin : P.inits.idxOf? f = none)
    (h : KW P W.heap.size f code (RetOf P f fun x w => x = ans ∧ Blw W.heap.size W w) (args ++ Array.replicate (fd.ntmps - args.size) undef) W) :
    K P W.heap.size (G (Frame.enter P f args .normal) []) W (AtRet P W.heap.size fun x w' => x = ans ∧ Blw W.heap.size W w') := by
  have e : Frame.enter P f args .normal = (Frame.enter P f args .normal).at ⟨args ++ Array.replicate (fd.ntmps - args.size) undef, []⟩ [.code code] := by
    simp [Frame.enter, Frame.at, hfn, hbody]
  rw [e]
  refine h _ [] [] _ (by simp [Frame.enter]) (by simp [Frame.enter]) fun e a w hx => ?_
  obtain ⟨he, hd, fd', x, hfn', hres, rfl, hR⟩ := hx
  obtain rfl : fd = fd' := by rw [hfn] at hfn'; exact Option.some.inj hfn'
  have back : ∀ todo, K P W.heap.size (G (rf (Frame.enter P f args .normal) a.tmps todo) []) w (AtRet P W.heap.size fun x' w' => x' = x ∧ Blw W.heap.size W w') := fun todo =>
    K.here ⟨_, _, _, fd, x, rfl, by simp [Frame.enter], by simpa [Frame.enter] using hfn, by simpa [Frame.enter] using hin, hres, fun S w' hS hs => ⟨rfl, hR.sim (Nat.le_refl _) hS hs⟩⟩
  rcases he with rfl | rfl
  · refine ⟨hd, ?_⟩
    show K P W.heap.size (G (Frame.at _ a []) []) w _
    rw [act_eq hd]
    exact K.fall (back _)
  · exact ⟨hd, back⟩
end Go.Proofs.Ytlpfogkfjjbklac.Lift
