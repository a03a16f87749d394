/-
  From the making of a group to behind its wait.
-/
import Derived.Test.YtadngncbbbbapaaKayc
namespace Go.Proofs.Ytadngncbbbbapaa.Lift
open Go.Conc Go.Proofs.Ytadngncbbbbapaa.Crew
open Go.ConcN (sumTo upd sumTo_upd upd_ne upd_same)
open Go.ConcR (WgAt)
set_option linter.unusedVariables false
set_option linter.unusedSectionVars false
set_option linter.unusedSimpArgs false
variable {P : Program} {B : Nat} {S : Nat → Prop} {a a' : Goroutine} {v : World} {Q : Goroutine → World → Prop}

theorem _root_.Go.Proofs.Ytadngncbbbbapaa.Crew.Fr.mono {Shun : Loc → Prop} {n m L : Nat} {t : Trace} (h : Fr Shun n t L) (hm : n ≤ m) : Fr Shun m t L := ⟨h.past.mono hm, h.quiet, h.known, h.gs⟩
theorem _root_.Go.Proofs.Ytadngncbbbbapaa.Crew.Fr.congr {Shun Shun' : Loc → Prop} {n L : Nat} {t : Trace} (h : Fr Shun n t L) (he : ∀ l, Shun l ↔ Shun' l) : Fr Shun' n t L := by
  have : Shun = Shun' := funext fun l => propext (he l)
  exact this ▸ h

/-- Goroutine 0 makes a block: as far as is known of what was touched, all lies below it. -/
theorem make_step {gs : Array Goroutine} {w : World} {sl : Option (Nat × Nat)} {t : Trace} {q : Nat → Nat} {L : Nat} {o : Obj}
    (h0 : gs[0]? = some a) (hsz : gs.size = L + 1) (hL : Leavers P t gs q) (hF : Fr (shun S) w.heap.size t L) (hS : Sim S (re v w.tape w.drawn) w) (hrun : a.status = .running)
    (hstep : ∀ w, v.heap.size = w.heap.size → stepG P true a w = .go a' { w with heap := w.heap.push o } #[]) :
    ∃ N gs' w' sl' t' q', runNT P N (crowd gs w sl) t = (.next (crowd gs' { w' with heap := w'.heap.push o } sl'), t') ∧ gs'[0]? = some a' ∧ gs'.size = L + 1 ∧ Leavers P t' gs' q' ∧ Fr (shun S) w'.heap.size t' L ∧ Sim S (re v w'.tape w'.drawn) w' := by
  generalize hM : sumTo gs.size q = M
  induction M using Nat.strongRecOn generalizing gs w sl q t with
  | _ M ih =>
    have haw : ∀ g ∈ gs, awake g := by
      intro g hg
      obtain ⟨i, hi, rfl⟩ := Array.mem_iff_getElem.1 hg
      rcases Nat.eq_zero_or_pos i with rfl | hpos
      · have : gs[0] = a := by simpa [Array.getElem?_eq_getElem hi] using h0
        rw [this]; exact awake_of (.inl hrun)
      · exact awake_of ((hL.old i _ hpos (Array.getElem?_eq_getElem hi)).status.elim .inl fun x => .inr (.inr x))
    obtain ⟨i, g, d, sl', hi, hg, hst⟩ := crowd_pick (P := P) (w := w) (sl := sl) haw ⟨0, a, h0, hrun⟩
    have hSd : Sim S (re v (w.at d).tape (w.at d).drawn) (w.at d) := ⟨hS.size, hS.same, hS.gone, hS.os, hS.output, rfl, rfl⟩
    rcases Nat.eq_zero_or_pos i with rfl | hpos
    · obtain rfl : g = a := by rw [h0] at hi; exact (Option.some.inj hi).symm
      have hrunT := runT_crowd_go (P := P) (sl := sl') (i := 0) hi (show stepG P (0 == 0) g (w.at d) = _ from hstep (w.at d) hS.size)
      have hlt : 0 < gs.size := (Array.getElem?_eq_some_iff.1 h0).1
      have hnil : MemOp.ofEvents 0 g.frame.fn g.frame.place #[] = #[] := by rw [ofEvents_eq]; simp
      refine ⟨1, (gs.map (woken P g a' { (w.at d) with heap := (w.at d).heap.push o })).setIfInBounds 0 a', w.at d, sl', t, q, by simp only [runNT, hst, hrunT, hnil, Array.append_empty], by simp [hlt], by simp [hsz], ⟨fun j x hj hx => ?_, fun j hj => hL.above j (by simpa using hj)⟩, hF, hSd⟩
      rw [Array.getElem?_setIfInBounds_ne (by omega), Array.getElem?_map] at hx
      obtain ⟨y, hy, rfl⟩ := Option.map_eq_some_iff.1 hx
      have hq := hL.old j y hj hy
      rw [woken_quitsD hq]
      exact hq
    · obtain ⟨d', hd⟩ := beside_step (sl := sl) h0 hsz hL hF hS hrun
      -- the machine's step is a leaver's
      have hq := hL.old i g hpos hi
      have hi0 : (i == 0) = false := by simp; omega
      have hlt : i < gs.size := (Array.getElem?_eq_some_iff.1 hi).1
      cases hqi : q i with
      | zero => rw [hqi] at hq; rw [hq.1] at hg; cases hg
      | succ k =>
        rw [hqi] at hq
        rcases hq with ⟨hf, _⟩ | ⟨_, g', es, hm, hstp, hq'⟩
        · rw [hf] at hg; cases hg
        have hrunT := runT_crowd_go (P := P) (sl := sl') (i := i) hi (by rw [hi0]; exact hstp (w.at d))
        have hsum : sumTo gs.size (upd q i k) + (k + 1) = sumTo gs.size q + k := by
          have := sumTo_upd q k id hlt
          simpa [hqi] using this
        obtain ⟨N, gs'', w'', sl'', t'', q'', hr, rest⟩ := ih (sumTo gs.size (upd q i k)) (by omega) (gs := (gs.map (woken P g g' (w.at d))).setIfInBounds i g') (w := w.at d) (sl := sl') (q := upd q i k) (t := t ++ MemOp.ofEvents i g.frame.fn g.frame.place es)
          (by rw [Array.getElem?_setIfInBounds_ne (by omega), Array.getElem?_map, h0]; simp [woken_run hrun]) (by simp [hsz])
          ⟨fun j x hj hx => by
            by_cases hji : i = j
            · subst hji
              rw [Array.getElem?_setIfInBounds_self_of_lt (by simpa using hlt)] at hx
              obtain rfl := Option.some.inj hx
              rw [upd_same, Deaf_own]
              exact hq'
            · rw [Array.getElem?_setIfInBounds_ne hji, Array.getElem?_map] at hx
              obtain ⟨y, hy, rfl⟩ := Option.map_eq_some_iff.1 hx
              have hqj := hL.old j y hj hy
              rw [woken_quitsD hqj, upd_ne q k (Ne.symm hji), Deaf_other t hji _ (fun op hop => by obtain ⟨e, _, rfl⟩ := Go.Conc.mem_ofEvents hop; rfl)]
              exact hqj, fun j hj => by
            have h1 : gs.size ≤ j := by simpa using hj
            rw [Deaf_other t (g' := i) (by omega) _ (fun op hop => by obtain ⟨e, _, rfl⟩ := Go.Conc.mem_ofEvents hop; rfl)]
            exact hL.above j (by simpa using hj)⟩ (hF.mute (by omega) (by omega) hm) hSd (by simp)
        exact ⟨N + 1, gs'', w'', sl'', t'', q'', by simp only [runNT, hst, hrunT]; exact hr, rest⟩

/-- What is asked of who starts and who works, to come from the making of the group to behind the wait. -/
structure Band (P : Program) (B : Nat) (S : Nat → Prop) (L : Nat) (a : Goroutine) (w : World) (o : Obj) (Q : Goroutine → World → Prop) where
  C : Crew
  Head : Goroutine → World → Prop
  Anch : Goroutine → World → Prop
  prog : C.P = P
  old : C.old = L
  wg : C.Wg = w.heap.size
  bound : w.heap.size ≤ C.B
  ok : Ok C
  head : ∀ g w, Head g w → g.status = .running
  anch : ∀ g w, Anch g w → g.status = .running
  anchAt : ∀ g w d, Anch g (w.at d) → Anch g w
  round : ∀ g w, Head g w → ∃ m, Goes C.P true C.RC (C.DC C.last) (AtW1 C Head Anch) m g w
  sh : ∀ l, C.Sh l ↔ shun S l ∨ ∃ ad : Addr, l = .cell ad ∧ ad.block = C.Wg
  own : ∀ k l, C.Own k l → C.old < k
  rd : ∀ k l, C.Rd k l → C.old < k
  zero : WgAt C.ty C.Wg { w with heap := w.heap.push o } 0 0
  spawns : Spawns C (Waits C Head) (C.last - C.old) a { w with heap := w.heap.push o }
  goon : ∀ a' w', Anch a' w' → (∀ i, C.old ≤ i → i < C.last → C.Fin (i + 1) w') → C.B ≤ w'.heap.size ∧ ∃ v', Sim (fun b => S b ∨ b = C.Wg) (re v' w'.tape w'.drawn) w' ∧ K P B a' v' Q

theorem K.crew {o : Obj} (hB : ∀ S w, Sim S (Lift.re v w.tape w.drawn) w → B ≤ w.heap.size) (hrun : a.status = .running) (hstep : ∀ w, v.heap.size = w.heap.size → stepG P true a w = .go a' { w with heap := w.heap.push o } #[])
    (h : ∀ S L w, (∀ b, S b → B ≤ b) → Sim S (Lift.re v w.tape w.drawn) w → Nonempty (Band P B S L a' w o Q)) : K P B a v Q := K.bind fun S L m t hS hA => by
  obtain ⟨gs, w, sl, q, rfl, h0, hsz, hL, hF, hSim⟩ := hA.ex
  obtain ⟨N, gs', w', sl', t', q', hr, h0', hsz', hL', hF', hSim'⟩ := make_step (sl := sl) h0 hsz hL hF hSim hrun hstep
  obtain ⟨D⟩ := h S L w' hS hSim'
  have hp := D.prog
  have ho := D.old
  have hw := D.wg
  obtain ⟨N₂, gs₂, a₂, w₂, sl₂, t₂, q₂, hr₂, hsz₂, h0₂, hA₂, hfin, hL₂, hF₂⟩ := Crew.phase (C := D.C) (Head := D.Head) (Anch := D.Anch) (Shun := shun S) (B := w'.heap.size) (t := t') D.ok D.head D.anch D.anchAt D.round D.sh (by rw [hw]; exact Nat.le_refl _) D.bound D.own D.rd (gs := gs') (a := a') (w := { w' with heap := w'.heap.push o }) (q := q') sl' h0' (by rw [ho]; exact hsz') (by rw [hp]; exact hL') (by rw [ho]; exact hF') D.zero D.spawns
  obtain ⟨hb, v', hSim₂, hk⟩ := D.goon a₂ w₂ hA₂ hfin
  rw [hp] at hr₂ hL₂
  refine ⟨N + N₂, _, t₂, fun b => S b ∨ b = D.C.Wg, D.C.last, a₂, v', by rw [runNT_add, hr]; exact hr₂, fun b hb' => ?_, ⟨gs₂, w₂, sl₂, q₂, rfl, h0₂, hsz₂, hL₂, (hF₂.mono hb).congr fun l => ?_, hSim₂⟩, hk⟩
  · rcases hb' with hb' | hb'
    · exact hS b hb'
    · rw [hb', hw]; exact hB S w' hSim'
  · rw [D.sh]
    constructor
    · rintro (⟨ad, rfl, hs⟩ | ⟨ad, rfl, hs⟩)
      · exact ⟨ad, rfl, .inl hs⟩
      · exact ⟨ad, rfl, .inr hs⟩
    · rintro ⟨ad, rfl, hs | hs⟩
      · exact .inl ⟨ad, rfl, hs⟩
      · exact .inr ⟨ad, rfl, hs⟩
end Go.Proofs.Ytadngncbbbbapaa.Lift
