/-
  Workers beside others that only leave: the starter's steps; the run from where the first worker is to be started to where the starter stands behind its wait, on whatever tape.
-/
import Derived.Test.YtadngncbbbbapaaCrewc
namespace Go.Proofs.Ytadngncbbbbapaa.Crew
open Go.Conc Go.ConcN
open Go.ConcR (KK wgBlock WgAt stA smA rd wr mk Bk g_of_ofEvents bk_of_mute ofEvent_loc_mark ofEvent_mk ofEvent_cell again_blocked)
set_option linter.unusedVariables false
set_option linter.unusedSectionVars false
variable {C : Crew} {Head Anch : Goroutine → World → Prop}
section
variable {gs : Array Goroutine} {w w' : World} {sl : Option (Nat × Nat)} {j : Nat} {D : Nat → WD} {tag tag' : CTag} {f0 f' d0 : Nat} {a a' : Goroutine} {t : Trace} {st sm st' sm' : Int} {es : Array Event}

/-- What is to be shown of a step of the starter's. -/
abbrev Onward (C : Crew) (Head Anch : Goroutine → World → Prop) (gs : Array Goroutine) (w : World) (sl : Option (Nat × Nat)) (t : Trace) (μ : Nat × Nat) : Prop :=
  ∃ m₁ ops μ', runT C.P (crowd gs w sl) 0 = (.next m₁, ops) ∧ Lt2 μ' μ ∧ Inv C Head Anch μ' m₁ (t ++ ops)

theorem w1Step (hO : Ok C) (ha : gs[0]? = some a) (hcom : Com C C.last gs w t D 1) (hwg : WgAt C.ty C.Wg w st sm) (hmode : ConcN.Mode C.last D .w1 st sm)
    (h : Goes C.P true C.RC (C.DC C.last) (AtW1 C Head Anch) f0 a w) : Onward C Head Anch gs w sl t (phi C.last (Vc C.last D) .w1 + Ssum C.last D, f0 + 2 * Fsum C.last D) := by
  rcases Goes.cases h with hstop | ⟨m', rfl, hstep⟩
  · obtain ⟨_, hall⟩ := hstop w (hO.rcRefl w)
    obtain ⟨ho, rfl, rfl, _⟩ := hmode.open_inv trivial
    have hV := vc_new hcom.gone hcom.le
    have hen := hO.enough
    obtain ⟨a', hgo, h0, hne⟩ := hall (Vc C.last D) (by omega) (by simpa [pend] using hwg)
    by_cases hv : Vc C.last D = 0
    · obtain ⟨m₂, hk⟩ := h0 hv
      refine bookC hO ha hcom hwg hgo (.refl C.Wg w) hwg bk_rd (tag' := .ke) (.ke hk) ?_ (by simp) (.inl (by simp only [phi]; omega))
      have e : ((Vc C.last D + pend .w1 : Nat) : Int) * KK = 0 := by rw [hv]; simp [pend]
      rw [e]
      exact .fin trivial (allQuit_of ho hv)
    · obtain ⟨m₂, hk⟩ := hne hv
      exact bookC hO ha hcom hwg hgo (.refl C.Wg w) hwg bk_rd (tag' := .w2 (Vc C.last D)) (.w2 hk) (hmode.reopen trivial trivial rfl (fun vs e => by cases e; omega)) (by simp) (.inl (by simp only [phi]; omega))
  · obtain ⟨a', w', es, hgo, hD, hg'⟩ := hstep w (hO.rcRefl w)
    exact idleC hO ha hcom hwg hmode (by simp) hgo hD (.w1 hg') (by omega)

/-- The go statement. -/
theorem goStep (hO : Ok C) (ha : gs[0]? = some a) {r : Nat} (hr : r < C.last - C.old) (hcom : Com C (C.last - (r + 1)) gs w t D 0) (hwg : WgAt C.ty C.Wg w st sm) (hmode : ConcN.Mode (C.last - (r + 1)) D (.sp r 2) st sm)
    (h : AtGo C (C.last - (r + 1)) (Spawns C (Waits C Head) r) a w) : Onward C Head Anch gs w sl t (phi C.last (Vc (C.last - (r + 1)) D) (.sp r 2) + Ssum (C.last - (r + 1)) D, f0 + 2 * Fsum (C.last - (r + 1)) D) := by
  obtain ⟨_, a', child, hsp, ⟨m₂, hwk⟩, hnext⟩ := h
  obtain ⟨ho, rfl, rfl, _⟩ := hmode.open_inv trivial
  have hV := Vc_le (C.last - (r + 1)) D
  have hrun' := runT_crowd_spawn (P := C.P) (sl := sl) (i := 0) ha (by simpa using hsp)
  rw [hcom.size] at hrun'
  have hcom' := hcom.spawn hO (a' := a') (x := { g := 0, fn := a.frame.fn, pos := a.frame.place, act := .go (C.last - (r + 1) + 1) }) (y := { g := C.last - (r + 1) + 1, fn := child.frame.fn, pos := a.frame.place, act := .start }) ⟨rfl, rfl⟩ ⟨rfl, rfl⟩ hwk
  have eV : Vc (C.last - (r + 1) + 1) (upd D (C.last - (r + 1)) ⟨7, m₂, 0⟩) = Vc (C.last - (r + 1)) D + 1 := by
    simp only [Vc, sumTo, upd_same]
    rw [sumTo_upd_out D _ cnt (Nat.le_refl _)]; rfl
  have eS : Ssum (C.last - (r + 1) + 1) (upd D (C.last - (r + 1)) ⟨7, m₂, 0⟩) = Ssum (C.last - (r + 1)) D + 7 := by
    simp only [Ssum, sumTo, upd_same]
    rw [sumTo_upd_out D _ WD.stage (Nat.le_refl _)]
  have ho' : OpenSt (C.last - (r + 1) + 1) (upd D (C.last - (r + 1)) ⟨7, m₂, 0⟩) := fun i hi => by
    by_cases e : i = C.last - (r + 1)
    · subst e; rw [upd_same]; simp
    · rw [upd_ne D _ e]; exact ho i (by omega)
  have ha' : ((gs.setIfInBounds 0 a').push child)[0]? = some a' := by
    rw [Array.getElem?_push_lt (by simp [hcom.size]), ← Array.getElem?_eq_getElem]
    simp [hcom.size]
  have ej : C.last - (r + 1) + 1 = C.last - r := by omega
  rw [ej] at hrun' hcom' eV eS ho'
  have est : ∀ tag', pend tag' = 0 → ((Vc (C.last - (r + 1)) D + pend (.sp r 2) : Nat) : Int) * KK = ((Vc (C.last - r) (upd D (C.last - (r + 1)) ⟨7, m₂, 0⟩) + pend tag' : Nat) : Int) * KK := fun tag' hp => by rw [eV, hp]; simp [pend]
  cases r with
  | zero =>
    obtain ⟨m₃, hk⟩ := hnext
    simp only [Nat.sub_zero] at hrun' hcom' eV eS ho' est
    refine ⟨_, _, (phi C.last (Vc C.last (upd D (C.last - (0 + 1)) ⟨7, m₂, 0⟩)) .kd + Ssum C.last (upd D (C.last - (0 + 1)) ⟨7, m₂, 0⟩), m₃ + 2 * Fsum C.last (upd D (C.last - (0 + 1)) ⟨7, m₂, 0⟩)), hrun', Prod.Lex.left _ _ (by simp only [phi]; omega),
      _, w, sl, C.last, _, .kd, m₃, 0, a', _, _, rfl, ha', .kd hk, hcom', hwg, ?_, by simp, rfl⟩
    rw [est .kd rfl]
    exact .opn trivial ho' (by simp)
  | succ r' =>
    obtain ⟨m₃, hk⟩ := hnext
    refine ⟨_, _, (phi C.last (Vc (C.last - (r' + 1)) (upd D (C.last - (r' + 1 + 1)) ⟨7, m₂, 0⟩)) (.sp r' 5) + Ssum (C.last - (r' + 1)) (upd D (C.last - (r' + 1 + 1)) ⟨7, m₂, 0⟩), m₃ + 2 * Fsum (C.last - (r' + 1)) (upd D (C.last - (r' + 1 + 1)) ⟨7, m₂, 0⟩)), hrun', Prod.Lex.left _ _ (by simp only [phi]; omega),
      _, w, sl, C.last - (r' + 1), _, .sp r' 5, m₃, 0, a', _, _, rfl, ha', .sdi (by omega) hk, hcom', hwg, ?_, by simp, rfl⟩
    rw [est (.sp r' 5) rfl]
    exact .opn trivial ho' (by simp)

set_option maxHeartbeats 1000000 in
theorem stepCaller (hO : Ok C) (hHd : ∀ g w, Head g w → ∃ m, Goes C.P true C.RC (C.DC C.last) (AtW1 C Head Anch) m g w)
    (ha : gs[0]? = some a) (hcs : CS C Head Anch tag j f0 d0 a w) (hcom : Com C j gs w t D d0) (hwg : WgAt C.ty C.Wg w st sm) (hmode : ConcN.Mode j D tag st sm) (hacq : tag = .ret → AcqAll C t) (hrun : a.status = .running) :
    (tag = .ret ∧ Anch a w) ∨ Onward C Head Anch gs w sl t (phi C.last (Vc j D) tag + Ssum j D, f0 + 2 * Fsum j D) := by
  have hnew := vc_new hcom.gone hcom.le
  have hen := hO.enough
  have hol := hO.oldLast
  cases hcs with
  | sdi hr h =>
    rcases Goes.cases h with hstop | ⟨m', rfl, hstep⟩
    · obtain ⟨_, a', hgo, m₂, hk⟩ := hstop w (hO.rcRefl w)
      exact .inr (bookC hO ha hcom hwg hgo (.refl C.Wg w) hwg bk_dis (.sad hr hk) (hmode.reopen trivial trivial rfl (by simp)) (by simp) (.inl (by simp only [phi]; omega)))
    · obtain ⟨a', w', es, hgo, hD, hg'⟩ := hstep w (hO.rcRefl w)
      exact .inr (idleC hO ha hcom hwg hmode (by simp) hgo hD (.sdi hr hg') (by omega))
  | sad hr h =>
    rename_i r
    rcases Goes.cases h with hstop | ⟨m', rfl, hstep⟩
    · obtain ⟨_, hall⟩ := hstop w (hO.rcRefl w)
      obtain ⟨ho, rfl, rfl, _⟩ := hmode.open_inv trivial
      obtain ⟨a', hgo, m₂, hk⟩ := hall (Vc (C.last - (r + 1)) D) (by omega) (by simpa [pend] using hwg)
      refine .inr (bookC hO ha hcom hwg hgo (aside_setCell w (stA C.Wg) _) (hwg.setSt _) bk_rw (.sen hr hk) ?_ (by simp) (.inl (by simp only [phi]; omega)))
      have e : (((Vc (C.last - (r + 1)) D : Nat) : Int) + 1) * KK = ((Vc (C.last - (r + 1)) D + pend (.sp r 3) : Nat) : Int) * KK := by simp [pend]
      rw [e]
      exact .opn trivial ho (by simp)
    · obtain ⟨a', w', es, hgo, hD, hg'⟩ := hstep w (hO.rcRefl w)
      exact .inr (idleC hO ha hcom hwg hmode (by simp) hgo hD (.sad hr hg') (by omega))
  | sen hr h =>
    rcases Goes.cases h with hstop | ⟨m', rfl, hstep⟩
    · obtain ⟨_, a', hgo, m₂, hk⟩ := hstop w (hO.rcRefl w)
      exact .inr (bookC hO ha hcom hwg hgo (.refl C.Wg w) hwg bk_en (.sgo hr hk) (hmode.reopen trivial trivial rfl (by simp)) (by simp) (.inl (by simp only [phi]; omega)))
    · obtain ⟨a', w', es, hgo, hD, hg'⟩ := hstep w (hO.rcRefl w)
      exact .inr (idleC hO ha hcom hwg hmode (by simp) hgo hD (.sen hr hg') (by omega))
  | sgo hr h =>
    rcases Goes.cases h with hstop | ⟨m', rfl, hstep⟩
    · exact .inr (goStep hO ha hr hcom hwg hmode (hstop w (hO.rcRefl w)))
    · obtain ⟨a', w', es, hgo, hD, hg'⟩ := hstep w (hO.rcRefl w)
      exact .inr (idleC hO ha hcom hwg hmode (by simp) hgo hD (.sgo hr hg') (by omega))
  | kd h =>
    rcases Goes.cases h with hstop | ⟨m', rfl, hstep⟩
    · obtain ⟨_, a', hgo, m₂, hk⟩ := hstop w (hO.rcRefl w)
      exact .inr (bookC hO ha hcom hwg hgo (.refl C.Wg w) hwg bk_dis (.anch hk) (hmode.reopen trivial trivial rfl (by simp)) (by simp) (.inl (by simp only [phi]; omega)))
    · obtain ⟨a', w', es, hgo, hD, hg'⟩ := hstep w (hO.rcRefl w)
      exact .inr (idleC hO ha hcom hwg hmode (by simp) hgo hD (.kd hg') (by omega))
  | anch h =>
    rcases Goes.cases h with hstop | ⟨m', rfl, hstep⟩
    · obtain ⟨m₂, hk⟩ := hHd a w (hstop w (hO.rcRefl w))
      obtain ⟨m₁, ops, μ', h1, h2, h3⟩ := w1Step (sl := sl) hO ha hcom hwg (hmode.reopen trivial trivial rfl (by simp)) hk
      exact .inr ⟨m₁, ops, μ', h1, lt2_trans h2 (Prod.Lex.left _ _ (by simp only [phi]; omega)), h3⟩
    · obtain ⟨a', w', es, hgo, hD, hg'⟩ := hstep w (hO.rcRefl w)
      exact .inr (idleC hO ha hcom hwg hmode (by simp) hgo hD (.anch hg') (by omega))
  | w1 h => exact .inr (w1Step hO ha hcom hwg hmode h)
  | w2 h =>
    rename_i vs
    rcases Goes.cases h with hstop | ⟨m', rfl, hstep⟩
    · obtain ⟨_, hall⟩ := hstop w (hO.rcRefl w)
      obtain ⟨ho, rfl, rfl, hw2⟩ := hmode.open_inv trivial
      obtain ⟨hle, h1⟩ := hw2 vs rfl
      obtain ⟨hhit, hmiss⟩ := hall (Vc C.last D) (by omega) (by simpa [pend] using hwg)
      by_cases e : Vc C.last D = vs
      · obtain ⟨a', hgo, m₂, hk⟩ := hhit e
        exact .inr (bookC hO ha hcom hwg hgo (aside_setCell w (stA C.Wg) _) (hwg.setSt _) bk_rw (.w3 hk) (.reg trivial ho (by omega)) (by simp) (.inl (by simp only [phi]; omega)))
      · obtain ⟨a', hgo, m₂, hk⟩ := hmiss e
        exact .inr (bookC hO ha hcom hwg hgo (.refl C.Wg w) hwg bk_rd (.anch hk) (hmode.reopen trivial trivial rfl (by simp)) (by simp) (.inl (by simp only [phi]; omega)))
    · obtain ⟨a', w', es, hgo, hD, hg'⟩ := hstep w (hO.rcRefl w)
      exact .inr (idleC hO ha hcom hwg hmode (by simp) hgo hD (.w2 hg') (by omega))
  | w3 h =>
    rcases Goes.cases h with hstop | ⟨m', rfl, hstep⟩
    · obtain ⟨_, hoff, hblk, htake⟩ := hstop w (hO.rcRefl w)
      cases hmode with
      | opn h1 _ _ => exact h1.elim
      | reg h1 h2 h3 => exact .inr (bookC hO ha hcom hwg (hblk ⟨_, hwg⟩) (.refl C.Wg w) hwg (by simp) (.blk hstop) (.reg trivial h2 h3) (by simp) (.inr ⟨rfl, by omega⟩))
      | last L h1 h2 h3 h4 => exact .inr (bookC hO ha hcom hwg (hblk ⟨_, hwg⟩) (.refl C.Wg w) hwg (by simp) (.blk hstop) (.last L trivial h2 h3 h4) (by simp) (.inr ⟨rfl, by omega⟩))
      | sema h2 =>
        obtain ⟨a', hgo, m₂, hk⟩ := htake hwg
        exact .inr (bookC hO ha hcom hwg hgo (aside_setCell w (smA C.Wg) _) (hwg.setSm 0) bk_sem (.w4 hk) (.fin trivial h2) (by simp) (.inl (by simp only [phi]; omega)))
      | fin h1 _ => exact h1.elim
    · obtain ⟨a', w', es, hgo, hD, hg'⟩ := hstep w (hO.rcRefl w)
      exact .inr (idleC hO ha hcom hwg hmode (by simp) hgo hD (.w3 hg') (by omega))
  | blk h => simp at hrun
  | w4 h =>
    rcases Goes.cases h with hstop | ⟨m', rfl, hstep⟩
    · obtain ⟨_, hx⟩ := hstop w (hO.rcRefl w)
      obtain ⟨hq, rfl, rfl⟩ := hmode.fin_inv trivial
      obtain ⟨a', hgo, m₂, hk⟩ := hx hwg
      exact .inr (bookC hO ha hcom hwg hgo (.refl C.Wg w) hwg bk_rd (.ke hk) (.fin trivial hq) (by simp) (.inl (by simp only [phi]; omega)))
    · obtain ⟨a', w', es, hgo, hD, hg'⟩ := hstep w (hO.rcRefl w)
      exact .inr (idleC hO ha hcom hwg hmode (by simp) hgo hD (.w4 hg') (by omega))
  | ke h =>
    rcases Goes.cases h with hstop | ⟨m', rfl, hstep⟩
    · obtain ⟨_, a', hgo, m₂, hk⟩ := hstop w (hO.rcRefl w)
      obtain ⟨hq, rfl, rfl⟩ := hmode.fin_inv trivial
      exact .inr (bookC hO ha hcom hwg hgo (.refl C.Wg w) hwg bk_en (.acq hk) (.fin trivial hq) (by simp) (.inl (by simp only [phi]; omega)))
    · obtain ⟨a', w', es, hgo, hD, hg'⟩ := hstep w (hO.rcRefl w)
      exact .inr (idleC hO ha hcom hwg hmode (by simp) hgo hD (.ke hg') (by omega))
  | acq h =>
    rcases Goes.cases h with hstop | ⟨m', rfl, hstep⟩
    · obtain ⟨_, a', hgo, m₂, hk⟩ := hstop w (hO.rcRefl w)
      obtain ⟨hq, rfl, rfl⟩ := hmode.fin_inv trivial
      refine .inr (callerStep hO ha hcom hgo (fun k _ => hO.rwRefl k w) (ok0_mute (by intro e he; simp at he; subst he; rfl)) (by intro e he; simp at he; subst he; simp [mk]) (by intro e he; simp at he; subst he; exact hO.wgB) (.ret hk) hwg (.fin trivial hq) (fun _ => ?_) (.inl (by simp only [phi]; omega)))
      have e1 : MemOp.ofEvents 0 a.frame.fn a.frame.place #[mk (.acquire (stA C.Wg))] = #[{ g := 0, fn := a.frame.fn, pos := a.frame.place, act := .mark (.acquire (stA C.Wg)) }] := by rw [ofEvents_eq]; simp [ofEvent_mk]
      have hy : (t ++ #[({ g := 0, fn := a.frame.fn, pos := a.frame.place, act := .mark (.acquire (stA C.Wg)) } : MemOp)])[t.size]? = some { g := 0, fn := a.frame.fn, pos := a.frame.place, act := .mark (.acquire (stA C.Wg)) } := by simp
      refine ⟨t.size, by rw [e1, act?_of hy], by rw [e1]; simp [Trace.g?], by rw [e1]; exact ⟨0, by simp [Trace.g?], by rw [deaf_old (Nat.le_refl _)]; exact hcom.deaf0⟩, fun i ho hi => ?_⟩
      obtain ⟨r, hr⟩ := hcom.rel i ho hi (by rw [hq i hi]; omega)
      exact ⟨r, hr.appOther g_of_ofEvents (by omega), lt_of_act? hr.by_.act⟩
    · obtain ⟨a', w', es, hgo, hD, hg'⟩ := hstep w (hO.rcRefl w)
      exact .inr (idleC hO ha hcom hwg hmode (by simp) hgo hD (.acq hg') (by omega))
  | ret h =>
    rcases Goes.cases h with hstop | ⟨m', rfl, hstep⟩
    · exact .inl ⟨rfl, hstop w (hO.rcRefl w)⟩
    · obtain ⟨a', w', es, hgo, hD, hg'⟩ := hstep w (hO.rcRefl w)
      exact .inr (idleC hO ha hcom hwg hmode hacq hgo hD (.ret hg') (by omega))

/-- Nobody waits for ever. -/
theorem someone_runs (hO : Ok C) (hH : ∀ g w, Head g w → g.status = .running) (hA : ∀ g w, Anch g w → g.status = .running) (ha : gs[0]? = some a) (hcs : CS C Head Anch tag j f0 d0 a w) (hcom : Com C j gs w t D d0) (hmode : ConcN.Mode j D tag st sm) :
    ∃ (i : Nat) (g : Goroutine), gs[i]? = some g ∧ g.status = .running := by
  rcases hcs.status hO hH hA with ⟨hs, _⟩ | ⟨_, rfl⟩
  · exact ⟨0, a, ha, hs⟩
  · have pick : ∀ i, i < j → (D i).stage ≠ 1 → ∃ (i : Nat) (g : Goroutine), gs[i]? = some g ∧ g.status = .running := fun i hi h1 => by
      obtain ⟨g, hg, hs⟩ := hcom.wk i hi
      exact ⟨i + 1, g, hg, (hs.live hO).elim (fun x => x.2) (fun x => absurd x.1 h1)⟩
    cases hmode with
    | opn h1 _ _ => exact h1.elim
    | reg _ _ h3 =>
      obtain ⟨i, hi, h5⟩ : ∃ i, i < j ∧ 5 ≤ (D i).stage := by
        refine Classical.byContradiction fun hn => ?_
        have := sumTo_le (f := fun i => cnt (D i)) (c := 0) (j := j) fun i hi => by
          simp only [cnt]
          split
          · exact absurd ⟨i, hi, by assumption⟩ hn
          · exact Nat.le_refl _
        simp only [Vc] at h3
        omega
      exact pick i hi (by omega)
    | last L _ h2 h3 _ => exact pick L h2 (by omega)
    | fin h1 _ => exact h1.elim
theorem all_awake (hO : Ok C) (hH : ∀ g w, Head g w → g.status = .running) (hA : ∀ g w, Anch g w → g.status = .running) (ha : gs[0]? = some a) (hcs : CS C Head Anch tag j f0 d0 a w) (hcom : Com C j gs w t D d0) : ∀ g ∈ gs, awake g := by
  intro g hg tm
  obtain ⟨i, hi⟩ := Array.mem_iff_getElem?.1 hg
  cases i with
  | zero =>
    rw [ha] at hi; cases hi
    rcases hcs.status hO hH hA with ⟨hs, _⟩ | ⟨hs, _⟩ <;> rw [hs] <;> simp
  | succ i =>
    have hlt : i < j := by have := (Array.getElem?_eq_some_iff.1 hi).1; rw [hcom.size] at this; omega
    obtain ⟨g', hg', hs⟩ := hcom.wk i hlt
    rw [hi] at hg'; cases hg'
    rcases hs.status hO with h | h <;> rw [h] <;> simp
end

theorem crew_step (hO : Ok C) (hH : ∀ g w, Head g w → g.status = .running) (hA : ∀ g w, Anch g w → g.status = .running) (hAt : ∀ g w d, Anch g (w.at d) → Anch g w) (hHd : ∀ g w, Head g w → ∃ m, Goes C.P true C.RC (C.DC C.last) (AtW1 C Head Anch) m g w) :
    ∀ μ m t, Inv C Head Anch μ m t → Done C Anch m t ∨ (∃ m' ops μ', stepT C.P m = (.next m', ops) ∧ Lt2 μ' μ ∧ Inv C Head Anch μ' m' (t ++ ops)) := by
  rintro μ m t ⟨gs, w, sl, j, D, tag, f0, d0, a, st, sm, rfl, ha, hcs, hcom, hwg, hmode, hacq, rfl⟩
  obtain ⟨i, g, d, sl', hg, hrun, hstep⟩ := crowd_pick (P := C.P) (w := w) (sl := sl) (all_awake hO hH hA ha hcs hcom) (someone_runs hO hH hA ha hcs hcom hmode)
  have hcs' := hcs.rely hO (hO.rcAt w d)
  have hcom' := hcom.at hO d
  have hwg' : WgAt C.ty C.Wg (w.at d) st sm := hwg
  cases i with
  | zero =>
    rw [ha] at hg; cases hg
    rcases stepCaller (sl := sl') hO hHd ha hcs' hcom' hwg' hmode hacq hrun with ⟨rfl, hAn⟩ | h
    · cases hcs with
      | ret h => exact .inl ⟨gs, w, sl, D, a, rfl, ha, hAt _ _ _ hAn, hcom, (hmode.fin_inv trivial).1, hacq rfl⟩
    · rw [hstep]; exact .inr h
  | succ i =>
    have hi : i < j := by have := (Array.getElem?_eq_some_iff.1 hg).1; rw [hcom.size] at this; omega
    rw [hstep]
    exact .inr (stepWorker hO hH hA ha hcs' hcom' hwg' hmode hacq hi hg hrun)

theorem crew_runs (hO : Ok C) (hH : ∀ g w, Head g w → g.status = .running) (hA : ∀ g w, Anch g w → g.status = .running) (hAt : ∀ g w d, Anch g (w.at d) → Anch g w) (hHd : ∀ g w, Head g w → ∃ m, Goes C.P true C.RC (C.DC C.last) (AtW1 C Head Anch) m g w) :
    ∀ μ m t, Inv C Head Anch μ m t → ∃ N m' t', runNT C.P N m t = (.next m', t') ∧ Done C Anch m' t' := by
  intro μ
  induction μ using (Prod.lex Nat.lt_wfRel Nat.lt_wfRel).wf.induction with
  | _ μ ih =>
    intro m t h
    rcases crew_step hO hH hA hAt hHd μ m t h with hd | ⟨m', ops, μ', hs, hlt, h'⟩
    · exact ⟨0, m, t, rfl, hd⟩
    · obtain ⟨N, m₂, t₂, hr, hd⟩ := ih μ' hlt m' (t ++ ops) h'
      exact ⟨N + 1, m₂, t₂, by simp only [runNT, hs]; exact hr, hd⟩
end Go.Proofs.Ytadngncbbbbapaa.Crew
