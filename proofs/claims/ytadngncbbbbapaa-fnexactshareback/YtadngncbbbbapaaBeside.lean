/-
  What tame code does alone it does beside others that only leave.
-/
import Derived.Test.YtadngncbbbbapaaBar
import Derived.Test.YtadngncbbbbapaaCrewe
namespace Go.Proofs.Ytadngncbbbbapaa.Lift
open Go.Conc Go.Proofs.Ytadngncbbbbapaa.Crew
open Go.ConcN (sumTo upd sumTo_upd upd_ne upd_same)
set_option linter.unusedVariables false
set_option linter.unusedSectionVars false
set_option linter.unusedSimpArgs false
variable {P : Program} {T : FuncId → Prop} {S : Nat → Prop}

theorem _root_.Go.Proofs.Ytadngncbbbbapaa.Crew.Fr.own {t : Trace} {L n m : Nat} (h : Fr (shun S) n t L) (hm : n ≤ m) {fn : FuncId} {pos : String} {es : Array Event} (he : ∀ e ∈ es, EvO S m e) : Fr (shun S) m (t ++ MemOp.ofEvents 0 fn pos es) L := by
  have g0 : ∀ op ∈ MemOp.ofEvents 0 fn pos es, op.g = 0 := fun op hop => by obtain ⟨e, _, rfl⟩ := Go.Conc.mem_ofEvents hop; rfl
  refine ⟨(h.past.mono hm).own fun e hx => ⟨fun x hx' hs => absurd hs ((he e hx).1 x hx'), (he e hx).2⟩, h.quiet.app fun op hop x hx hs => ?_, fun i a ha => ?_, fun i op hi => ?_⟩
  · obtain ⟨e, hx', rfl⟩ := Go.Conc.mem_ofEvents hop
    exact absurd hs ((he e hx').1 x hx)
  · obtain ⟨op, ho, hoa⟩ := touch_of ha
    rcases getElem?_append_cases ho with ⟨_, ho'⟩ | ⟨_, hou⟩
    · exact (h.known i a (by rw [touchAt_of ho']; exact hoa)).imp (·.app _) id
    · have := knows_own ho
      rw [g0 op hou] at this
      exact .inl this
  · rcases getElem?_append_cases hi with ⟨_, hi'⟩ | ⟨_, hiu⟩
    · exact h.gs i op hi'
    · rw [g0 op hiu]; exact Nat.zero_le _
theorem _root_.Go.Proofs.Ytadngncbbbbapaa.Crew.Fr.mute {t : Trace} {L n g : Nat} (h : Fr (shun S) n t L) (hg : g ≠ 0) (hL : g ≤ L) {fn : FuncId} {pos : String} {es : Array Event} (hm : ∀ e ∈ es, e.mute = true) : Fr (shun S) n (t ++ MemOp.ofEvents g fn pos es) L := by
  have hn : ∀ op ∈ MemOp.ofEvents g fn pos es, op.act.touch? = none ∧ op.g = g := fun op hop => by obtain ⟨e, hx, rfl⟩ := Go.Conc.mem_ofEvents hop; exact ⟨touch_mute (hm e hx), rfl⟩
  refine ⟨h.past.mute hg hm, h.quiet.app fun op hop x hx hs => ?_, fun i a ha => ?_, fun i op hi => ?_⟩
  · rw [(hn op hop).1] at hx; cases hx
  · obtain ⟨op, ho, hoa⟩ := touch_of ha
    rcases getElem?_append_cases ho with ⟨_, ho'⟩ | ⟨_, hou⟩
    · exact (h.known i a (by rw [touchAt_of ho']; exact hoa)).imp (·.app _) id
    · rw [(hn op hou).1] at hoa; cases hoa
  · rcases getElem?_append_cases hi with ⟨_, hi'⟩ | ⟨_, hiu⟩
    · exact h.gs i op hi'
    · rw [(hn op hiu).2]; exact hL

/-- Goroutine 0 as told, in a machine all of whose others only leave. -/
structure At (P : Program) (S : Nat → Prop) (a : Goroutine) (v : World) (L : Nat) (m : Machine) (t : Trace) : Prop where
  ex : ∃ (gs : Array Goroutine) (w : World) (sl : Option (Nat × Nat)) (q : Nat → Nat), m = crowd gs w sl ∧ gs[0]? = some a ∧ gs.size = L + 1 ∧ Leavers P t gs q ∧ Fr (shun S) w.heap.size t L ∧ Sim S (re v w.tape w.drawn) w

/-- A step of the machine beside leavers: goroutine 0's, or a leaver's. -/
theorem beside_step {gs : Array Goroutine} {w : World} {sl : Option (Nat × Nat)} {t : Trace} {q : Nat → Nat} {L : Nat} {a : Goroutine} {v : World}
    (h0 : gs[0]? = some a) (hsz : gs.size = L + 1) (hL : Leavers P t gs q) (hF : Fr (shun S) w.heap.size t L) (hS : Sim S (re v w.tape w.drawn) w) (hrun : a.status = .running) :
    ∃ d, (∀ a' w' es, stepG P true a (w.at d) = .go a' w' es → (∀ e ∈ es, EvO S w'.heap.size e) → w.heap.size ≤ w'.heap.size → ∀ v', Sim S (re v' w'.tape w'.drawn) w' → ∃ m' ops, stepT P (crowd gs w sl) = (.next m', ops) ∧ At P S a' v' L m' (t ++ ops)) ∨
      (∃ gs' sl' q' ops, stepT P (crowd gs w sl) = (.next (crowd gs' (w.at d) sl'), ops) ∧ gs'[0]? = some a ∧ gs'.size = L + 1 ∧ Leavers P (t ++ ops) gs' q' ∧ Fr (shun S) w.heap.size (t ++ ops) L ∧ sumTo gs'.size q' < sumTo gs.size q) := by
  have haw : ∀ g ∈ gs, awake g := by
    intro g hg
    obtain ⟨i, hi, rfl⟩ := Array.mem_iff_getElem.1 hg
    rcases Nat.eq_zero_or_pos i with rfl | hpos
    · have : gs[0] = a := by simpa [Array.getElem?_eq_getElem hi] using h0
      rw [this]; exact awake_of (.inl hrun)
    · exact awake_of ((hL.old i _ hpos (Array.getElem?_eq_getElem hi)).status.elim .inl fun x => .inr (.inr x))
  obtain ⟨i, g, d, sl', hi, hg, hst⟩ := crowd_pick (P := P) (w := w) (sl := sl) haw ⟨0, a, h0, hrun⟩
  refine ⟨d, ?_⟩
  rcases Nat.eq_zero_or_pos i with rfl | hpos
  · left
    obtain rfl : g = a := by rw [h0] at hi; exact (Option.some.inj hi).symm
    intro a' w' es hgo hev hle v' hS'
    have hrunT := runT_crowd_go (P := P) (sl := sl') (i := 0) hi (show stepG P (0 == 0) g (w.at d) = _ from hgo)
    have hlt : 0 < gs.size := (Array.getElem?_eq_some_iff.1 h0).1
    refine ⟨_, _, by rw [hst]; exact hrunT, ⟨_, w', sl', q, rfl, by simp [hlt], by simp [hsz], ⟨fun j x hj hx => ?_, fun j hj => ?_⟩, hF.own hle hev, hS'⟩⟩
    · rw [Array.getElem?_setIfInBounds_ne (by omega), Array.getElem?_map] at hx
      obtain ⟨y, hy, rfl⟩ := Option.map_eq_some_iff.1 hx
      have hq := hL.old j y hj hy
      rw [woken_quitsD hq, Deaf_other t (g' := 0) (by omega) _ (fun op hop => by obtain ⟨e, _, rfl⟩ := Go.Conc.mem_ofEvents hop; rfl)]
      exact hq
    · have h1 : gs.size ≤ j := by simpa using hj
      rw [Deaf_other t (g' := 0) (by omega) _ (fun op hop => by obtain ⟨e, _, rfl⟩ := Go.Conc.mem_ofEvents hop; rfl)]
      exact hL.above j (by simpa using hj)
  · right
    have hq := hL.old i g hpos hi
    have hi0 : (i == 0) = false := by simp; omega
    have hlt : i < gs.size := (Array.getElem?_eq_some_iff.1 hi).1
    cases hqi : q i with
    | zero => rw [hqi] at hq; rw [hq.1] at hg; cases hg
    | succ k =>
      rw [hqi] at hq
      rcases hq with ⟨hf, _⟩ | ⟨_, g', es, hm, hstp, hq'⟩
      · rw [hf] at hg; cases hg
      have hrunT := runT_crowd_go (P := P) (sl := sl') (i := i) hi (by rw [hi0]; exact hstp (w.at d))
      have hsum : sumTo gs.size (upd q i k) + (k + 1) = sumTo gs.size q + k := by
        have := sumTo_upd q k id hlt
        simpa [hqi] using this
      refine ⟨_, sl', upd q i k, _, by rw [hst]; exact hrunT, ?_, by simp [hsz], ⟨fun j x hj hx => ?_, fun j hj => ?_⟩, hF.mute (by omega) (by omega) hm, by simp only [Array.size_setIfInBounds, Array.size_map]; omega⟩
      · rw [Array.getElem?_setIfInBounds_ne (by omega), Array.getElem?_map, h0]
        simp [woken_run hrun]
      · by_cases hji : i = j
        · subst hji
          rw [Array.getElem?_setIfInBounds_self_of_lt (by simpa using hlt)] at hx
          obtain rfl := Option.some.inj hx
          rw [upd_same, Deaf_own]
          exact hq'
        · rw [Array.getElem?_setIfInBounds_ne hji, Array.getElem?_map] at hx
          obtain ⟨y, hy, rfl⟩ := Option.map_eq_some_iff.1 hx
          have hqj := hL.old j y hj hy
          rw [woken_quitsD hqj, upd_ne q k (Ne.symm hji), Deaf_other t hji _ (fun op hop => by obtain ⟨e, _, rfl⟩ := Go.Conc.mem_ofEvents hop; rfl)]
          exact hqj
      · have h1 : gs.size ≤ j := by simpa using hj
        rw [Deaf_other t (g' := i) (by omega) _ (fun op hop => by obtain ⟨e, _, rfl⟩ := Go.Conc.mem_ofEvents hop; rfl)]
        exact hL.above j (by simpa using hj)

/-- If goroutine 0's next step is well whatever the tape, the machine comes to behind it. -/
theorem one_step {a : Goroutine} {v : World} {L : Nat} {m : Machine} {t : Trace} (hA : At P S a v L m t) (hrun : a.status = .running) {Q : Goroutine → World → Prop}
    (hstep : ∀ w, Sim S (re v w.tape w.drawn) w → ∃ a' v' w' es, stepG P true a w = .go a' w' es ∧ (∀ e ∈ es, EvO S w'.heap.size e) ∧ w.heap.size ≤ w'.heap.size ∧ Sim S (re v' w'.tape w'.drawn) w' ∧ Q a' v') :
    ∃ N m' t' a' v', runNT P N m t = (.next m', t') ∧ At P S a' v' L m' t' ∧ Q a' v' := by
  obtain ⟨gs, w, sl, q, rfl, h0, hsz, hL, hF, hS⟩ := hA.ex
  clear hA
  generalize hM : sumTo gs.size q = M
  induction M using Nat.strongRecOn generalizing gs w sl q t with
  | _ M ih =>
    obtain ⟨d, hd⟩ := beside_step (sl := sl) h0 hsz hL hF hS hrun
    have hSd : Sim S (re v (w.at d).tape (w.at d).drawn) (w.at d) := ⟨hS.size, hS.same, hS.gone, hS.os, hS.output, rfl, rfl⟩
    rcases hd with hd | ⟨gs', sl', q', ops, hst, h0', hsz', hL', hF', hlt⟩
    · obtain ⟨a', v', w', es, hgo, hev, hle, hS', hQ⟩ := hstep (w.at d) hSd
      obtain ⟨m', ops, hst, hA'⟩ := hd a' w' es hgo hev hle v' hS'
      exact ⟨1, m', _, a', v', by simp only [runNT, hst], hA', hQ⟩
    · obtain ⟨N, m', t', a', v', hr, hA', hQ⟩ := ih _ (by omega) (gs := gs') (w := w.at d) (sl := sl') (q := q') (t := t ++ ops) h0' hsz' hL' hF' hSd rfl
      exact ⟨N + 1, m', t', a', v', by simp only [runNT, hst]; exact hr, hA', hQ⟩
end Go.Proofs.Ytadngncbbbbapaa.Lift
