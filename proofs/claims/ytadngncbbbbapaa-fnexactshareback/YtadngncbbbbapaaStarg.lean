/-
  combine's goroutines, whole: from the making of the group to behind the wait.
-/
import Derived.Test.YtadngncbbbbapaaStarf
namespace Go.Proofs.Ytadngncbbbbapaa.Lift
open Go.Conc Go.Proofs.Ytadngncbbbbapaa.Crew Go.RowKit
open Go.Proofs.Ytadngncbbbbapaa.Wgs (cf gAdd gWait goes_nxs nxs didL askL Hires Awaits HeadW AnchW add_goes wait_goes round_ head_run anch_run)
open Go.ConcR (KK WgAt wgBlock stA smA)
set_option linter.unusedVariables false
section
variable {Ob n B : Nat} {fx : Nat → Int} {H : Hdr} {g : Int → Int → Int} {ab ao bb bo : Nat} {xs ys : Nat → Int} {v : World} {cs : List Frame}
theorem alloc_step (u : Nat → Value) (w : World) : stepG Try.prog true (gAt (T4 H u) [.inRegion ops4 [0], .code aft4] cs) w = .go (gAt (TS0 H w.heap.size u) [.inRegion ops4 [], .code aft4] cs) { w with heap := w.heap.push (wgBlock 67 0 0) } #[] := by kernel_rfl
theorem push_old {w : World} {o : Obj} {b : Nat} (h : b < w.heap.size) : ({ w with heap := w.heap.push o } : World).heap[b]? = w.heap[b]? := by
  show (w.heap.push o)[b]? = _
  rw [Array.getElem?_push, if_neg (by omega)]
theorem push_new {w : World} {o : Obj} : ({ w with heap := w.heap.push o } : World).heap[w.heap.size]? = some o := by
  show (w.heap.push o)[w.heap.size]? = _
  simp
theorem start_spawns {S : Nat → Prop} {L : Nat} {w : World} (D : Dat (jobOf w.heap.size Ob n L fx S) H w g ab ao bb bo xs ys) (u : Nat → Value) :
    Spawns (jobOf w.heap.size Ob n L fx S).crew (Waits (jobOf w.heap.size Ob n L fx S).crew (HDC (jobOf w.heap.size Ob n L fx S) H w cs)) ((n + 4) / 5) (gAt (TS0 H w.heap.size u) [.inRegion ops4 [], .code aft4] cs) { w with heap := w.heap.push (wgBlock 67 0 0) } := by
  generalize hJ : jobOf w.heap.size Ob n L fx S = J at D
  have eW : J.Wg = w.heap.size := by rw [← hJ]; rfl
  have eo : J.old = L := by rw [← hJ]; rfl
  have ec : J.cnt = (n + 4) / 5 := by rw [← hJ]; rfl
  have et : J.ty = 67 := by rw [← hJ]; rfl
  have hP : J.crew.P = Try.prog := D.P
  have T := J.termsC J.old
  obtain ⟨M, hh⟩ := head_goes (cs := cs) D J.cnt 0 (by omega)
  obtain ⟨n5, r5⟩ := reg5 (J := J) (H := H) (w0 := w) (sz := J.Wg + 1) (j := J.old) D.I (by unfold Job.top; omega) (by omega)
  rw [← ec, ← eW]
  refine spawns_of (m := M + 2 + n5 + 3) ?_
  have hl : J.crew.last - J.cnt = J.old := by show J.old + J.cnt - J.cnt = _; omega
  rw [hP, hl]
  have hS0 : S0 J w (J.Wg + 1) { w with heap := w.heap.push (wgBlock 67 0 0) } := by
    refine ⟨⟨rfl, rfl, rfl, ⟨0, 0, ?_⟩, fun b h1 h2 => push_old (by omega), fun c hc => ⟨c, ?_, rfl⟩⟩, by simp [eW], by omega⟩
    · show _ = _
      rw [eW, et]
      exact push_new
    · have := D.I.fit.ob
      rw [push_old (by omega)]
      exact hc
  refine goes_nxs (n := 3) T.trans T.idle (fun w => i1 _ _ w) ?_
  rw [e1]
  refine goR (r5 u _ hS0) fun e a' w' ⟨he, hT, hF⟩ => ⟨he, ?_⟩
  obtain ⟨u1, rfl⟩ := hT.form
  refine goes_nxs (n := 2) (g := gAt (TS H J.Wg (J.Wg + 1) u1) [.code (.block 0 (.loop lbC)), .code tlC] cs) T.trans T.idle (fun w => i2 _ _ w) ?_
  rw [e2]
  exact hh u1 w' hF
/-- The ghost behind the wait. -/
theorem ghost_aft {S : Nat → Prop} {L : Nat} {w w' : World} (h : Pre Ob n B fx H g ab ao bb bo xs ys v) (hS : Sim S (Lift.re v w.tape w.drawn) w) (hF : FLC (jobOf w.heap.size Ob n L fx S) w w')
    (hfin : ∀ i, L ≤ i → i < L + (n + 4) / 5 → ∀ t, (jobOf w.heap.size Ob n L fx S).M (i + 1) t → w'.cell? ⟨Ob, t, none⟩ = some (.int .i64 (fx t))) :
    Sim (fun b => S b ∨ b = w.heap.size) (Lift.re (empt (fun b => S b ∨ b = w.heap.size) w') w'.tape w'.drawn) w' ∧ Aft v.heap.size Ob n 3 fx v (empt (fun b => S b ∨ b = w.heap.size) w') := by
  have D := h.dat L hS
  have hsz : v.heap.size = w.heap.size := hS.size
  obtain ⟨cs0, o1, o2⟩ := h.ob
  have hob : Ob < w.heap.size := D.I.fit.ob
  have hblk : ∀ b, b < w.heap.size → b ≠ Ob → w'.heap[b]? = w.heap[b]? := hF.block
  have hlow : ∀ b, S b → b < w.heap.size := fun b hb => by
    obtain ⟨t, c, _, h2⟩ := hS.gone b hb
    exact (Array.getElem?_eq_some_iff.1 h2).1
  have hshp : ∀ cs, w.heap[Ob]? = some (.cells cs 3 (0, 0)) → ∃ cs', w'.heap[Ob]? = some (.cells cs' 3 (0, 0)) ∧ cs'.size = cs.size := hF.out
  have hsame : ∀ b, ¬ S b → v.heap[b]? = w.heap[b]? := hS.same
  have hgone : ∀ b, S b → ∃ t c, v.heap[b]? = some (.cells #[] t) ∧ w.heap[b]? = some (.cells c t) := hS.gone
  -- shunned blocks in the new world
  have hnew : ∀ b, S b → ∃ t c, v.heap[b]? = some (.cells #[] t) ∧ w'.heap[b]? = some (.cells c t) := fun b hb => by
    obtain ⟨t, c, h1, h2⟩ := hgone b hb
    by_cases e : b = Ob
    · subst e
      rw [o1] at h1
      injection h1 with h1
      injection h1 with h1 h3 _
      subst h3
      obtain ⟨c', h4, _⟩ := hshp c h2
      exact ⟨_, c', by rw [o1, h1], h4⟩
    · exact ⟨t, c, h1, (hblk b (hlow b hb) e).trans h2⟩
  refine ⟨⟨empt_size _ _, fun b hb => empt_same hb, fun b hb => ?_, rfl, rfl, rfl, rfl⟩, ⟨hF.os.trans hS.os.symm, hF.output.trans hS.output.symm, ?_, fun b h1 h2 => ?_, ?_⟩⟩
  · rcases hb with hb | rfl
    · obtain ⟨t, c, _, h2⟩ := hnew b hb
      exact ⟨t, c, empt_gone (.inl hb) h2, h2⟩
    · obtain ⟨st, sm, hl⟩ := hF.live
      exact ⟨_, _, empt_gone (.inr rfl) hl, hl⟩
  · rw [empt_size, hF.size, hsz]
    show w.heap.size ≤ w.heap.size + 2 + 2 * ((n + 4) / 5)
    omega
  · by_cases hs : S b
    · obtain ⟨t, c, h3, h4⟩ := hnew b hs
      rw [empt_gone (.inl hs) h4, h3]
    · rw [empt_same (fun hx => hx.elim hs (by omega)), hblk b (by omega) h2, ← hsame b hs]
  · by_cases hs : S Ob
    · obtain ⟨t, c, h3, h4⟩ := hnew Ob hs
      rw [o1] at h3
      injection h3 with h3
      injection h3 with h3 h5 _
      subst h3 h5
      refine ⟨#[], empt_gone (.inl hs) h4, o2, fun t ht => ?_⟩
      simp at o2
      omega
    · obtain ⟨cs', h4, h5⟩ := hshp cs0 ((hsame Ob hs).symm.trans o1)
      refine ⟨cs', by rw [empt_same (fun hx => hx.elim hs (by omega))]; exact h4, h5.trans o2, fun t ht => ?_⟩
      have := hfin (L + t / 5) (by omega) (by omega) t (by
        show L < L + t / 5 + 1 ∧ 5 * (L + t / 5 + 1 - L - 1) ≤ t ∧ t < 5 * (L + t / 5 + 1 - L - 1) + 5 ∧ t < n
        omega)
      simpa [World.cell?, h4] using this
theorem mid (h : Pre Ob n B fx H g ab ao bb bo xs ys v) {Q : Goroutine → World → Prop} (u : Nat → Value)
    (hk : ∀ v' u', Aft v.heap.size Ob n 3 fx v v' → K Try.prog B (G ((cf (TS H v.heap.size (v.heap.size + 1 + 2 * ((n + 4) / 5)) u') tdW).finish (.tuple #[])) cs) v' Q) :
    K Try.prog B (gAt (T4 H u) [.inRegion ops4 [0], .code aft4] cs) v Q := by
  refine K.crew (o := wgBlock 67 0 0) (a' := gAt (TS0 H v.heap.size u) [.inRegion ops4 [], .code aft4] cs) (fun S w hS => ?_) rfl (fun w hw => ?_) (fun S L w hSB hS => ⟨?_⟩)
  · have : v.heap.size = w.heap.size := hS.size
    have := h.le
    omega
  · rw [hw]
    exact alloc_step u w
  have hsz : v.heap.size = w.heap.size := hS.size
  have D := h.dat L hS
  have hm : (n + 4) / 5 ≤ 4 := by have := h.le20; omega
  have hok := Job.ok D.I.fit
  refine { C := (jobOf w.heap.size Ob n L fx S).crew, Head := HDC (jobOf w.heap.size Ob n L fx S) H w cs, Anch := ANC (jobOf w.heap.size Ob n L fx S) H w cs, prog := rfl, old := rfl, wg := rfl, bound := ?_, ok := hok, head := head_run, anch := anch_run, anchAt := ?_, round := ?_, sh := fun l => Iff.rfl, own := ?_, rd := ?_, zero := ?_, spawns := ?_, goon := ?_ }
  · show w.heap.size ≤ w.heap.size + 2 + 2 * ((n + 4) / 5); omega
  · rintro g w d ⟨h1, h2⟩
    exact ⟨h1, SF.rely D.I h2 ⟨rfl, rfl, rfl, rfl, id, fun _ _ _ => rfl, fun c hc => ⟨c, hc, rfl⟩⟩⟩
  · intro g w hg
    exact round_ (C := (jobOf _ Ob n L fx S).crew) D.P hm tdW cs (D.awaits _ _ _) hg
  · rintro k l ⟨i, _, hM⟩
    exact hM.1
  · rintro k l ⟨a, _, h1, _⟩
    exact h1
  · exact push_new
  · have hs := start_spawns (cs := cs) D u
    have e : (jobOf w.heap.size Ob n L fx S).crew.last - (jobOf w.heap.size Ob n L fx S).crew.old = (n + 4) / 5 := by
      show L + (n + 4) / 5 - L = _; omega
    rw [e, hsz]
    exact hs
  · rintro a' w' ⟨⟨tm, ⟨u', rfl⟩, rfl⟩, hF⟩ hfin
    obtain ⟨g1, g2⟩ := ghost_aft h hS hF (fun i h1 h2 t ht => hfin i h1 h2 t ht)
    refine ⟨by rw [hF.size]; exact Nat.le_refl _, _, g1, ?_⟩
    have := hk _ u' g2
    rw [hsz] at this
    exact this
end
end Go.Proofs.Ytadngncbbbbapaa.Lift
