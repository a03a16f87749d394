/-
  Workers beside others that only leave: how what holds of the machine is kept: by a worker's step, by the starter's, by a go statement.
-/
import Derived.Test.YtadngncbbbbapaaCrew
namespace Go.Proofs.Ytadngncbbbbapaa.Crew
open Go.Conc Go.ConcN
open Go.ConcR (KK wgBlock WgAt stA smA rd wr mk Bk g_of_ofEvents bk_of_mute ofEvent_loc_mark ofEvent_mk ofEvent_cell again_blocked)
set_option linter.unusedVariables false
set_option linter.unusedSectionVars false
variable {C : Crew}

theorem Still.running {P : Program} {Stop : Goroutine → Prop} (hst : ∀ g, Stop g → g.status = .running) : ∀ {n : Nat} {g : Goroutine}, Still P Stop n g → g.status = .running
  | 0, _, h => hst _ h
  | _ + 1, _, h => h.elim (hst _) (fun x => x.1)
theorem Still.cases {P : Program} {Stop : Goroutine → Prop} {n : Nat} {g : Goroutine} (h : Still P Stop n g) : Stop g ∨ ∃ n', n = n' + 1 ∧ ∃ g', (∀ w, stepG P false g w = .go g' w #[]) ∧ Still P Stop n' g' := by
  cases n with
  | zero => exact .inl h
  | succ n =>
    rcases h with h | ⟨_, g', h1, h2⟩
    · exact .inl h
    · exact .inr ⟨n, rfl, g', h1, h2⟩

section
variable {k s m d : Nat} {g : Goroutine} {w w' : World}
theorem WS.rely (hO : Ok C) (h : WS C k s m d g w) (hr : C.RW k w w') : WS C k s m d g w' := by
  cases h with
  | s7 h => exact .s7 (Goes.rely (hO.rwTrans k) h hr)
  | s6 h => exact .s6 h
  | s5 h => exact .s5 h
  | s4 h => exact .s4 h
  | s3 h => exact .s3 h
  | s2 h => exact .s2 h
  | quit h => exact .quit h
theorem WS.live (hO : Ok C) (h : WS C k s m d g w) : (s ≠ 1 ∧ g.status = .running) ∨ (s = 1 ∧ QuitsD C.P m d g) := by
  cases h with
  | s7 h => exact .inl ⟨by omega, Goes.running (fun _ _ x => x.1) w (hO.rwRefl k w) h⟩
  | s6 h => exact .inl ⟨by omega, h.running (fun _ x => x.1)⟩
  | s5 h => exact .inl ⟨by omega, h.running (fun _ x => x.1)⟩
  | s4 h => exact .inl ⟨by omega, h.running (fun _ x => x.1)⟩
  | s3 h => exact .inl ⟨by omega, h.running (fun _ x => x.1)⟩
  | s2 h => exact .inl ⟨by omega, h.running (fun _ x => x.1)⟩
  | quit h => exact .inr ⟨rfl, h⟩
theorem WS.status (hO : Ok C) (h : WS C k s m d g w) : g.status = .running ∨ g.status = .finished := (h.live hO).elim (fun x => .inl x.2) (fun x => x.2.status)
theorem WS.woken (hO : Ok C) (h : WS C k s m d g w) (a a' : Goroutine) (w' : World) : woken C.P a a' w' g = g := by
  unfold Go.Conc.woken
  split
  · exact again_running _ (h.status hO)
  · rfl
end

/-! ### releases -/
theorem Rel.appNot {t u : Trace} {k r : Nat} (h : Rel C t k r) (hu : ∀ op ∈ u, op.g ≠ k) : Rel C (t ++ u) k r := by
  refine ⟨h.by_.appNot hu, fun i x hi hg hx => ?_⟩
  obtain ⟨op, ho, hog⟩ := Option.map_eq_some_iff.1 hg
  rcases getElem?_append_cases ho with ⟨hlt, ho'⟩ | ⟨_, hou⟩
  · exact h.tail i x hi (by simp [Trace.g?, ho', hog]) (by rw [← touchAt_old (u := u) hlt]; exact hx)
  · exact absurd hog (hu op hou)
theorem Rel.appOther {t u : Trace} {k r g : Nat} (h : Rel C t k r) (hu : ∀ op ∈ u, op.g = g) (hg : g ≠ k) : Rel C (t ++ u) k r := h.appNot fun op hop e => hg ((hu op hop).symm.trans e)
theorem touch_bk {Wg : Nat} {e : Event} {x : Touch} (h : Bk Wg e) (hx : (MemAct.ofEvent e).touch? = some x) : ∃ a : Addr, x.loc = .cell a ∧ a.block = Wg := by
  rcases h with h1 | h1 | ⟨a, b, rfl, ha⟩
  · rw [ofEvent_loc_mark h1] at hx; cases hx
  · rw [ofEvent_loc_mark h1] at hx; cases hx
  · rw [ofEvent_cell] at hx
    simp only [MemAct.touch?, Option.some.injEq] at hx
    subst hx; exact ⟨a, rfl, ha⟩
theorem Rel.appTail {t : Trace} {k r : Nat} {fn : FuncId} {pos : String} {es : Array Event} (h : Rel C t k r) (hb : RelBy (stA C.Wg) (t ++ MemOp.ofEvents k fn pos es) k r) (hes : ∀ e ∈ es, Bk C.Wg e) : Rel C (t ++ MemOp.ofEvents k fn pos es) k r := by
  refine ⟨hb, fun i x hi hg hx => ?_⟩
  obtain ⟨op, ho, hox⟩ := touch_of hx
  rcases getElem?_append_cases ho with ⟨hlt, ho'⟩ | ⟨_, hou⟩
  · exact h.tail i x hi (by rw [← g?_old (u := MemOp.ofEvents k fn pos es) hlt]; exact hg) (by rw [touchAt_of ho']; exact hox)
  · rw [ofEvents_eq] at hou
    obtain ⟨e, he, rfl⟩ := Array.mem_map.1 hou
    exact touch_bk (hes e he) hox
theorem Rel.new {t : Trace} {k : Nat} (hd : Deaf t k = 0) (fn : FuncId) (pos : String) : Rel C (t ++ MemOp.ofEvents k fn pos #[Go.ConcR.mk (.releaseMerge (stA C.Wg))]) k t.size := by
  refine ⟨RelBy.new hd fn pos, fun i x hi hg hx => ?_⟩
  obtain ⟨op, ho, _⟩ := touch_of hx
  have := lt_size_of_getElem? ho
  rw [ofEvents_eq] at this
  simp at this
  omega

/-! ### which entries the trace's law admits -/
section
variable {fn : FuncId} {pos : String} {es : Array Event}
theorem okW_of {k : Nat} (h : ∀ e ∈ es, EvW C k e) : ∀ op ∈ MemOp.ofEvents k fn pos es, OkW C.Sh C.Own C.Rd k op := by
  intro op hop
  rw [ofEvents_eq] at hop
  obtain ⟨e, he, rfl⟩ := Array.mem_map.1 hop
  exact (h e he).1 fn pos
theorem ok0_of {j : Nat} (h : ∀ e ∈ es, Ev0 C j e) : ∀ op ∈ MemOp.ofEvents 0 fn pos es, Ok0 C.Sh C.Own C.Rd j op := by
  intro op hop
  rw [ofEvents_eq] at hop
  obtain ⟨e, he, rfl⟩ := Array.mem_map.1 hop
  exact (h e he).1 fn pos
theorem okW_bk (hO : Ok C) {k : Nat} (h : ∀ e ∈ es, Bk C.Wg e) : ∀ op ∈ MemOp.ofEvents k fn pos es, OkW C.Sh C.Own C.Rd k op := by
  intro op hop
  rw [ofEvents_eq] at hop
  obtain ⟨e, he, rfl⟩ := Array.mem_map.1 hop
  refine ⟨rfl, fun x hx => ?_⟩
  rcases h e he with h1 | h1 | ⟨a, b, rfl, ha⟩
  · simp only [ofEvent_loc_mark h1] at hx; cases hx
  · simp only [ofEvent_loc_mark h1] at hx; cases hx
  · simp only [ofEvent_cell, MemAct.touch?, Option.some.injEq] at hx
    subst hx
    exact .inl ⟨hO.wgSh a ha, by simp, by simp⟩
theorem ok0_bk (hO : Ok C) {j : Nat} (h : ∀ e ∈ es, Bk C.Wg e) : ∀ op ∈ MemOp.ofEvents 0 fn pos es, Ok0 C.Sh C.Own C.Rd j op := by
  intro op hop
  obtain ⟨h1, h2⟩ := okW_bk hO h op hop
  exact ⟨h1, fun x hx => by
    rw [ofEvents_eq] at hop
    obtain ⟨e, he, rfl⟩ := Array.mem_map.1 hop
    obtain ⟨a, hl, hb⟩ := touch_bk (h e he) hx
    have hs : C.Sh x.loc := by rw [hl]; exact hO.wgSh a hb
    rcases h2 x hx with ⟨_, hp, _⟩ | ho | ⟨hr, _⟩
    · exact .inl ⟨hs, hp⟩
    · exact absurd hs (hO.apart.ownSh _ _ ho)
    · exact absurd hs (hO.apart.rdSh _ _ hr)⟩
theorem okW_mute {k : Nat} (h : ∀ e ∈ es, (MemAct.ofEvent e).touch? = none) : ∀ op ∈ MemOp.ofEvents k fn pos es, OkW C.Sh C.Own C.Rd k op := by
  intro op hop
  rw [ofEvents_eq] at hop
  obtain ⟨e, he, rfl⟩ := Array.mem_map.1 hop
  exact ⟨rfl, fun x hx => by simp only [h e he] at hx; cases hx⟩
theorem ok0_mute {j : Nat} (h : ∀ e ∈ es, (MemAct.ofEvent e).touch? = none) : ∀ op ∈ MemOp.ofEvents 0 fn pos es, Ok0 C.Sh C.Own C.Rd j op := by
  intro op hop
  rw [ofEvents_eq] at hop
  obtain ⟨e, he, rfl⟩ := Array.mem_map.1 hop
  exact ⟨rfl, fun x hx => by simp only [h e he] at hx; cases hx⟩
end

theorem low_bk (hO : Ok C) {es : Array Event} (h : ∀ e ∈ es, Bk C.Wg e) : ∀ e ∈ es, (MemAct.ofEvent e).low C.B := by
  intro e he
  rcases h e he with h1 | h1 | ⟨a, b, rfl, ha⟩
  · rw [ofEvent_loc_mark h1]; trivial
  · rw [ofEvent_loc_mark h1]; trivial
  · rw [ofEvent_cell]
    have := hO.wgB
    show a.block < C.B
    omega
theorem low_ops {g : Nat} {fn : FuncId} {pos : String} {es : Array Event} (h : ∀ e ∈ es, (MemAct.ofEvent e).low C.B) : ∀ op ∈ MemOp.ofEvents g fn pos es, op.act.low C.B := by
  intro op hop
  obtain ⟨e, he, rfl⟩ := Go.Conc.mem_ofEvents hop
  exact h e he
theorem OldK.app {t u : Trace} (h : OldK C t) (hu : ∀ op ∈ u, op.g ≠ 0 → op.g ≤ C.old → op.act.touch? = none) : OldK C (t ++ u) := by
  intro i g hg h0 ho
  obtain ⟨op, hop, rfl⟩ := Option.map_eq_some_iff.1 hg
  rcases getElem?_append_cases hop with ⟨hlt, hop'⟩ | ⟨_, hou⟩
  · obtain ⟨h1, h2⟩ := h i op.g (by simp [Trace.g?, hop']) h0 ho
    refine ⟨fun a ha => (h1 a (by rw [← touchAt_old (u := u) hlt]; exact ha)).imp (·.app u) id, fun hc => ?_⟩
    obtain ⟨j, hj, hb⟩ := h2 ((counts_old hlt).1 hc)
    have hjl : j < t.size := by
      obtain ⟨z, hz, _⟩ := Option.map_eq_some_iff.1 hj
      exact lt_size_of_getElem? hz
    exact ⟨j, by rw [g?_old hjl]; exact hj, hb_app u hb⟩
  · have hn := hu op hou h0 ho
    refine ⟨fun a ha => ?_, fun hc => ?_⟩
    · rw [touchAt_of hop, hn] at ha; cases ha
    · obtain ⟨x, hx, _⟩ := hc
      obtain ⟨op', ho', hox⟩ := touch_of hx
      rw [hop] at ho'; cases ho'
      rw [hn] at hox; cases hox

/-! ### what holds of the machine -/
section
variable {j : Nat} {gs : Array Goroutine} {w w' : World} {t : Trace} {D : Nat → WD} {d0 : Nat}
theorem Com.at (hO : Ok C) (h : Com C j gs w t D d0) (d : Nat) : Com C j gs (w.at d) t D d0 :=
  ⟨h.size, h.le, fun i hi => let ⟨g, hg, hs⟩ := h.wk i hi; ⟨g, hg, hs.rely hO (hO.rwAt _ w d)⟩, h.gone, h.ct, h.norel, h.deaf0, h.deafW, h.rel, fun i ho hi hs => hO.finRely _ _ _ (hO.rwAt _ w d) (h.fin i ho hi hs), h.seen, h.elder⟩

theorem Com.stepW (hO : Ok C) (h : Com C j gs w t D d0) {i : Nat} (hi : i < j) {g g' : Goroutine} {fn : FuncId} {pos : String} {es : Array Event} {s' m' dd' : Nat}
    (hrw : ∀ k, k ≠ i + 1 → C.RW k w w') (hs' : WS C (i + 1) s' m' dd' g' w') (hok : ∀ op ∈ MemOp.ofEvents (i + 1) fn pos es, OkW C.Sh C.Own C.Rd (i + 1) op) (hnr : ∀ e ∈ es, e.loc ≠ .mark (.release (stA C.Wg)))
    (hdeaf : deafBehind (D i).deaf es = dd') (hold : i < C.old → s' = 1) (hrel : C.old ≤ i → s' ≤ 6 → ∃ r, Rel C (t ++ MemOp.ofEvents (i + 1) fn pos es) (i + 1) r) (hfin : C.old ≤ i → s' ≤ 6 → C.Fin (i + 1) w') (hlow : ∀ e ∈ es, (MemAct.ofEvent e).low C.B) (hmut : i < C.old → ∀ e ∈ es, (MemAct.ofEvent e).touch? = none) :
    Com C j ((gs.map (woken C.P g g' w')).setIfInBounds (i + 1) g') w' (t ++ MemOp.ofEvents (i + 1) fn pos es) (upd D i ⟨s', m', dd'⟩) d0 := by
  refine ⟨by simp [h.size], h.le, fun i' hi' => ?_, fun i' hi' => ?_, h.ct.appW hO.apart (by omega) (by omega) hok, h.norel.app (norel_of hnr), by rw [Deaf_other t (by omega) _ g_of_ofEvents, h.deaf0], fun i' hi' => ?_, fun i' ho' hi' hst => ?_, fun i' ho' hi' hst => ?_, seen_app h.seen (low_ops hlow), h.elder.app fun op hop h0 ho => ?_⟩
  · by_cases e : i' = i
    · subst e
      exact ⟨g', get_map_set_same _ _ _ (by rw [h.size]; omega), by rw [upd_same]; exact hs'⟩
    · obtain ⟨x, hx, hsx⟩ := h.wk i' hi'
      refine ⟨x, by rw [get_map_set _ _ _ _ (by omega), hx, Option.map_some, hsx.woken hO], ?_⟩
      rw [upd_ne D _ e]
      exact hsx.rely hO (hrw _ (by omega))
  · by_cases e : i' = i
    · subst e; rw [upd_same]; exact hold hi'
    · rw [upd_ne D _ e]; exact h.gone i' hi'
  · by_cases e : i' = i
    · subst e; rw [Deaf_own, h.deafW i' hi', upd_same]; exact hdeaf
    · rw [Deaf_other t (by omega) _ g_of_ofEvents, h.deafW i' hi', upd_ne D _ e]
  · by_cases e : i' = i
    · subst e; rw [upd_same] at hst; exact hrel ho' hst
    · rw [upd_ne D _ e] at hst
      obtain ⟨r, hr⟩ := h.rel i' ho' hi' hst
      exact ⟨r, hr.appOther g_of_ofEvents (by omega)⟩
  · by_cases e : i' = i
    · subst e; rw [upd_same] at hst; exact hfin ho' hst
    · rw [upd_ne D _ e] at hst
      exact hO.finRely _ _ _ (hrw _ (by omega)) (h.fin i' ho' hi' hst)
  · obtain ⟨e, he, rfl⟩ := Go.Conc.mem_ofEvents hop
    exact hmut (by simp at ho; omega) e he

theorem Com.step0 (hO : Ok C) (h : Com C j gs w t D d0) {a a' : Goroutine} {fn : FuncId} {pos : String} {es : Array Event}
    (hrw : ∀ k, k ≤ j → C.RW k w w') (hok : ∀ op ∈ MemOp.ofEvents 0 fn pos es, Ok0 C.Sh C.Own C.Rd j op) (hnr : ∀ e ∈ es, e.loc ≠ .mark (.release (stA C.Wg))) (hlow : ∀ e ∈ es, (MemAct.ofEvent e).low C.B) :
    Com C j ((gs.map (woken C.P a a' w')).setIfInBounds 0 a') w' (t ++ MemOp.ofEvents 0 fn pos es) D (deafBehind d0 es) := by
  refine ⟨by simp [h.size], h.le, fun i hi => ?_, h.gone, h.ct.app0 hO.apart hok, h.norel.app (norel_of hnr), by rw [Deaf_own, h.deaf0], fun i hi => by rw [Deaf_other t (by omega) _ g_of_ofEvents, h.deafW i hi], fun i ho hi hst => ?_, fun i ho hi hst => hO.finRely _ _ _ (hrw _ (by omega)) (h.fin i ho hi hst), seen_app h.seen (low_ops hlow), h.elder.app fun op hop h0 ho => absurd (g_of_ofEvents op hop) h0⟩
  · obtain ⟨x, hx, hsx⟩ := h.wk i hi
    exact ⟨x, by rw [get_map_set _ _ _ _ (by omega), hx, Option.map_some, hsx.woken hO], hsx.rely hO (hrw _ (by omega))⟩
  · obtain ⟨r, hr⟩ := h.rel i ho hi hst
    exact ⟨r, hr.appOther g_of_ofEvents (by omega)⟩

theorem Com.spawn (hO : Ok C) (h : Com C j gs w t D 0) {a' child : Goroutine} {x y : MemOp} {m : Nat} (hx : x.g = 0 ∧ x.act = .go (j + 1)) (hy : y.g = j + 1 ∧ y.act = .start)
    (hc : Goes C.P false (C.RW (j + 1)) (C.DW (j + 1)) (S7 C (j + 1)) m child w) : Com C (j + 1) ((gs.setIfInBounds 0 a').push child) w (t ++ #[x, y]) (upd D j ⟨7, m, 0⟩) 0 := by
  have hm : ∀ op ∈ #[x, y], op = x ∨ op = y := by intro op hop; simpa using hop
  have hst : ∀ op ∈ #[x, y], op.act ≠ .mark .disable ∧ op.act ≠ .mark .enable := by
    intro op hop
    rcases hm op hop with rfl | rfl
    · rw [hx.2]; exact ⟨by simp, by simp⟩
    · rw [hy.2]; exact ⟨by simp, by simp⟩
  refine ⟨by simp [h.size], by have := h.le; omega, fun i hi => ?_, fun i hi => ?_, h.ct.fork hO.apart hx hy h.deaf0, h.norel.app fun op hop => ?_, by rw [Deaf_still t 0 _ hst, h.deaf0], fun i hi => ?_, fun i ho hi hs => ?_, fun i ho hi hs => ?_, seen_app h.seen fun op hop => ?_, h.elder.app fun op hop h0 ho => ?_⟩
  · rcases Nat.lt_or_ge i j with hlt | hge
    · obtain ⟨g, hg, hsg⟩ := h.wk i hlt
      refine ⟨g, ?_, by rw [upd_ne D _ (by omega)]; exact hsg⟩
      rw [Array.getElem?_push_lt (by simp [h.size]; omega), ← Array.getElem?_eq_getElem, Array.getElem?_setIfInBounds_ne (by omega)]
      exact hg
    · obtain rfl : i = j := by omega
      refine ⟨child, ?_, by rw [upd_same]; exact .s7 hc⟩
      rw [show i + 1 = (gs.setIfInBounds 0 a').size by simp [h.size], Array.getElem?_push_size]
  · rw [upd_ne D _ (by have := h.le; omega)]; exact h.gone i hi
  · rcases hm op hop with rfl | rfl
    · rw [hx.2]; simp
    · rw [hy.2]; simp
  · rw [Deaf_still t _ _ hst]
    rcases Nat.lt_or_ge i j with hlt | hge
    · rw [h.deafW i hlt, upd_ne D _ (by omega)]
    · obtain rfl : i = j := by omega
      rw [upd_same]
      exact Deaf_absent fun a op ha e => by have := h.ct.gs a op ha; omega
  · rcases Nat.lt_or_ge i j with hlt | hge
    · rw [upd_ne D _ (by omega)] at hs
      obtain ⟨r, hr⟩ := h.rel i ho hlt hs
      refine ⟨r, hr.appNot fun op hop => ?_⟩
      rcases hm op hop with rfl | rfl
      · rw [hx.1]; omega
      · rw [hy.1]; omega
    · obtain rfl : i = j := by omega
      rw [upd_same] at hs
      simp at hs
  · rcases Nat.lt_or_ge i j with hlt | hge
    · rw [upd_ne D _ (by omega)] at hs
      exact h.fin i ho hlt hs
    · obtain rfl : i = j := by omega
      rw [upd_same] at hs
      simp at hs
  · rcases hm op hop with rfl | rfl
    · rw [hx.2]; trivial
    · rw [hy.2]; trivial
  · rcases hm op hop with rfl | rfl
    · rw [hx.2]; rfl
    · rw [hy.2]; rfl
end

/-! ### the starter under another's step -/
section
variable {Head Anch : Goroutine → World → Prop} {tag : CTag} {j f d : Nat} {a : Goroutine} {w w' : World}
theorem CS.rely (hO : Ok C) (h : CS C Head Anch tag j f d a w) (hr : C.RC w w') : CS C Head Anch tag j f d a w' := by
  cases h with
  | sdi hn h => exact .sdi hn (Goes.rely hO.rcTrans h hr)
  | sad hn h => exact .sad hn (Goes.rely hO.rcTrans h hr)
  | sen hn h => exact .sen hn (Goes.rely hO.rcTrans h hr)
  | sgo hn h => exact .sgo hn (Goes.rely hO.rcTrans h hr)
  | kd h => exact .kd (Goes.rely hO.rcTrans h hr)
  | anch h => exact .anch (Goes.rely hO.rcTrans h hr)
  | w1 h => exact .w1 (Goes.rely hO.rcTrans h hr)
  | w2 h => exact .w2 (Goes.rely hO.rcTrans h hr)
  | w3 h => exact .w3 (Goes.rely hO.rcTrans h hr)
  | blk h => exact .blk (fun w₂ h₂ => h w₂ (hO.rcTrans _ _ _ hr h₂))
  | w4 h => exact .w4 (Goes.rely hO.rcTrans h hr)
  | ke h => exact .ke (Goes.rely hO.rcTrans h hr)
  | acq h => exact .acq (Goes.rely hO.rcTrans h hr)
  | ret h => exact .ret (Goes.rely hO.rcTrans h hr)
theorem CS.status (hO : Ok C) (hH : ∀ g w, Head g w → g.status = .running) (hA : ∀ g w, Anch g w → g.status = .running) (h : CS C Head Anch tag j f d a w) : (a.status = .running ∧ tag ≠ .blk) ∨ (a.status = .blocked ∧ tag = .blk) := by
  cases h with
  | sdi _ h => exact .inl ⟨Goes.running (fun _ _ x => x.1) w (hO.rcRefl w) h, by simp⟩
  | sad _ h => exact .inl ⟨Goes.running (fun _ _ x => x.1) w (hO.rcRefl w) h, by simp⟩
  | sen _ h => exact .inl ⟨Goes.running (fun _ _ x => x.1) w (hO.rcRefl w) h, by simp⟩
  | sgo _ h => exact .inl ⟨Goes.running (fun _ _ x => x.1) w (hO.rcRefl w) h, by simp⟩
  | kd h => exact .inl ⟨Goes.running (fun _ _ x => x.1) w (hO.rcRefl w) h, by simp⟩
  | anch h => exact .inl ⟨Goes.running hH w (hO.rcRefl w) h, by simp⟩
  | w1 h => exact .inl ⟨Goes.running (fun _ _ x => x.1) w (hO.rcRefl w) h, by simp⟩
  | w2 h => exact .inl ⟨Goes.running (fun _ _ x => x.1) w (hO.rcRefl w) h, by simp⟩
  | w3 h => exact .inl ⟨Goes.running (fun _ _ x => x.1) w (hO.rcRefl w) h, by simp⟩
  | blk h => exact .inr ⟨rfl, rfl⟩
  | w4 h => exact .inl ⟨Goes.running (fun _ _ x => x.1) w (hO.rcRefl w) h, by simp⟩
  | ke h => exact .inl ⟨Goes.running (fun _ _ x => x.1) w (hO.rcRefl w) h, by simp⟩
  | acq h => exact .inl ⟨Goes.running (fun _ _ x => x.1) w (hO.rcRefl w) h, by simp⟩
  | ret h => exact .inl ⟨Goes.running hA w (hO.rcRefl w) h, by simp⟩
theorem CS.wokenBy (hO : Ok C) (hH : ∀ g w, Head g w → g.status = .running) (hA : ∀ g w, Anch g w → g.status = .running) (h : CS C Head Anch tag j f d a w) (hr : C.RC w w') (g g' : Goroutine) :
    ∃ tag' f', CS C Head Anch tag' j f' d (woken C.P g g' w' a) w' ∧ f' ≤ f + 1 ∧ (tag' = tag ∨ (tag = .blk ∧ tag' = .w3)) ∧ (mayWake C.P g = true → g'.status = .running → tag' ≠ .blk) := by
  have h' := h.rely hO hr
  unfold Go.Conc.woken
  split
  · rcases h'.status hO hH hA with ⟨hs, hne⟩ | ⟨_, rfl⟩
    · exact ⟨tag, f, by rw [again_running _ (.inl hs)]; exact h', by omega, .inl rfl, fun _ _ => hne⟩
    · cases h' with
      | blk hb =>
        have h3 := hb w' (hO.rcRefl w')
        exact ⟨.w3, 0 + 1, by rw [again_blocked h3.1 h3.2.1]; exact .w3 (Goes.stop hb), by omega, .inr ⟨rfl, rfl⟩, fun _ _ => by simp⟩
  · rename_i hc
    exact ⟨tag, f, h', by omega, .inl rfl, fun h1 h2 => absurd (by simp [h1, h2]) hc⟩
theorem CS.bound (hO : Ok C) (h : CS C Head Anch tag j f d a w) : j + pend tag ≤ C.last := by
  have := hO.oldLast
  cases h <;> simp only [pend] <;> (try simp) <;> omega
end
end Go.Proofs.Ytadngncbbbbapaa.Crew
