/-
  Workers beside others that only leave: every step of the machine keeps what holds and comes nearer to the end, or the starter stands behind its wait.
-/
import Derived.Test.YtadngncbbbbapaaCrewb
namespace Go.Proofs.Ytadngncbbbbapaa.Crew
open Go.Conc Go.ConcN
open Go.ConcR (KK wgBlock WgAt stA smA rd wr mk Bk g_of_ofEvents bk_of_mute ofEvent_loc_mark ofEvent_mk ofEvent_cell again_blocked)
set_option linter.unusedVariables false
set_option linter.unusedSectionVars false
section
variable (C : Crew) (Head Anch : Goroutine → World → Prop)
/-- The starter has said 'acquire', hearing, behind every worker's release. -/
def AcqAll (t : Trace) : Prop := ∃ q, t.act? q = some (.mark (.acquire (stA C.Wg))) ∧ t.g? q = some 0 ∧ t.heard q ∧ ∀ i, C.old ≤ i → i < C.last → ∃ r, Rel C t (i + 1) r ∧ r < q
def Inv (μ : Nat × Nat) (m : Machine) (t : Trace) : Prop :=
  ∃ (gs : Array Goroutine) (w : World) (sl : Option (Nat × Nat)) (j : Nat) (D : Nat → WD) (tag : CTag) (f0 d0 : Nat) (a : Goroutine) (st sm : Int),
    m = crowd gs w sl ∧ gs[0]? = some a ∧ CS C Head Anch tag j f0 d0 a w ∧ Com C j gs w t D d0 ∧ WgAt C.ty C.Wg w st sm ∧ ConcN.Mode j D tag st sm ∧ (tag = .ret → AcqAll C t) ∧ μ = (phi C.last (Vc j D) tag + Ssum j D, f0 + 2 * Fsum j D)
/-- The starter stands behind its wait; all others only leave. -/
def Done (m : Machine) (t : Trace) : Prop :=
  ∃ (gs : Array Goroutine) (w : World) (sl : Option (Nat × Nat)) (D : Nat → WD) (a : Goroutine), m = crowd gs w sl ∧ gs[0]? = some a ∧ Anch a w ∧ Com C C.last gs w t D 0 ∧ AllQuit C.last D ∧ AcqAll C t
end
variable {C : Crew} {Head Anch : Goroutine → World → Prop}

theorem AcqAll.app {t u : Trace} (h : AcqAll C t) (hu : ∀ i r, C.old ≤ i → i < C.last → Rel C t (i + 1) r → Rel C (t ++ u) (i + 1) r) : AcqAll C (t ++ u) := by
  obtain ⟨q, h1, h2, h3, h4⟩ := h
  have hq := lt_of_act? h1
  exact ⟨q, by rw [act?_old hq]; exact h1, by rw [g?_old hq]; exact h2, (heard_old hq).2 h3, fun i ho hi => let ⟨r, hr, hrq⟩ := h4 i ho hi; ⟨r, hu i r ho hi hr, hrq⟩⟩

theorem vc_new {D : Nat → WD} {o : Nat} (h : ∀ i, i < o → (D i).stage = 1) : ∀ {j : Nat}, o ≤ j → Vc j D + o ≤ j
  | 0, hj => by simp [Vc, sumTo]; omega
  | j + 1, hj => by
    rcases Nat.lt_or_ge j o with hlt | hge
    · obtain rfl : o = j + 1 := by omega
      have h0 : Vc (j + 1) D = 0 := by
        have := sumTo_le (f := fun i => cnt (D i)) (c := 0) (j := j + 1) fun i hi => by simp [cnt, h i hi]
        simpa [Vc] using this
      omega
    · have := vc_new h hge
      have hc : cnt (D j) ≤ 1 := by simp only [cnt]; split <;> omega
      simp only [Vc, sumTo] at this ⊢
      omega

section
variable {gs : Array Goroutine} {w w' : World} {sl : Option (Nat × Nat)} {j : Nat} {D : Nat → WD} {tag tag' : CTag} {f0 f' d0 : Nat} {a a' : Goroutine} {t : Trace} {st sm st' sm' : Int} {es : Array Event}

/-- Whatever step of worker number i. -/
theorem workerStep (hO : Ok C) (hH : ∀ g w, Head g w → g.status = .running) (hA : ∀ g w, Anch g w → g.status = .running)
    (ha : gs[0]? = some a) (hcs : CS C Head Anch tag j f0 d0 a w) (hcom : Com C j gs w t D d0) {i : Nat} (hi : i < j) {g g' : Goroutine} {s' m' dd' : Nat}
    (hg : gs[i + 1]? = some g) (hgo : stepG C.P false g w = .go g' w' es) (hRC : C.RC w w') (hrw : ∀ k, k ≠ i + 1 → C.RW k w w') (hs' : WS C (i + 1) s' m' dd' g' w')
    (hok : ∀ op ∈ MemOp.ofEvents (i + 1) g.frame.fn g.frame.place es, OkW C.Sh C.Own C.Rd (i + 1) op) (hnr : ∀ e ∈ es, e.loc ≠ .mark (.release (stA C.Wg))) (hdeaf : deafBehind (D i).deaf es = dd')
    (hold : i < C.old → s' = 1) (hrel : C.old ≤ i → s' ≤ 6 → ∃ r, Rel C (t ++ MemOp.ofEvents (i + 1) g.frame.fn g.frame.place es) (i + 1) r) (hfin : C.old ≤ i → s' ≤ 6 → C.Fin (i + 1) w') (hlow : ∀ e ∈ es, (MemAct.ofEvent e).low C.B) (hmut : i < C.old → ∀ e ∈ es, (MemAct.ofEvent e).touch? = none)
    (hwg : WgAt C.ty C.Wg w' st' sm')
    (hmode : ∀ tag', (tag' = tag ∨ (tag = .blk ∧ tag' = .w3)) → (mayWake C.P g = true → g'.status = .running → tag' ≠ .blk) → ConcN.Mode j (upd D i ⟨s', m', dd'⟩) tag' st' sm')
    (hacq : tag = .ret → AcqAll C (t ++ MemOp.ofEvents (i + 1) g.frame.fn g.frame.place es))
    (hlt : (s' < (D i).stage ∧ cnt ⟨s', m', dd'⟩ ≤ cnt (D i)) ∨ (s' = (D i).stage ∧ m' + 1 = (D i).fuel)) :
    ∃ m₁ ops μ', runT C.P (crowd gs w sl) (i + 1) = (.next m₁, ops) ∧ Lt2 μ' (phi C.last (Vc j D) tag + Ssum j D, f0 + 2 * Fsum j D) ∧ Inv C Head Anch μ' m₁ (t ++ ops) := by
  obtain ⟨tag', f', hcs', hf', htag, hwk⟩ := hcs.wokenBy hO hH hA hRC g g'
  have hrun := runT_crowd_go (P := C.P) (sl := sl) (i := i + 1) hg (by simpa using hgo)
  have e1 := sumTo_upd D (⟨s', m', dd'⟩ : WD) cnt hi
  have e2 := sumTo_upd D (⟨s', m', dd'⟩ : WD) WD.stage hi
  have e3 := sumTo_upd D (⟨s', m', dd'⟩ : WD) WD.fuel hi
  refine ⟨_, _, (phi C.last (Vc j (upd D i ⟨s', m', dd'⟩)) tag' + Ssum j (upd D i ⟨s', m', dd'⟩), f' + 2 * Fsum j (upd D i ⟨s', m', dd'⟩)), hrun, ?_,
    _, w', sl, j, upd D i ⟨s', m', dd'⟩, tag', f', d0, woken C.P g g' w' a, st', sm', rfl, by rw [get_map_set _ _ _ _ (by omega), ha]; rfl, hcs', hcom.stepW hO hi hrw hs' hok hnr hdeaf hold hrel hfin hlow hmut, hwg, hmode tag' htag hwk, ?_, rfl⟩
  · rw [phi_retag C.last _ htag]
    simp only [Vc, Ssum, Fsum] at *
    rcases hlt with ⟨h1, h2⟩ | ⟨h1, h2⟩
    · refine Prod.Lex.left _ _ ?_
      have := phi_mono C.last (v' := sumTo j fun a => cnt (upd D i ⟨s', m', dd'⟩ a)) (v := sumTo j fun a => cnt (D a)) (by omega) tag
      omega
    · have ec : cnt (⟨s', m', dd'⟩ : WD) = cnt (D i) := by simp only [cnt, h1]
      have ev : (sumTo j fun a => cnt (upd D i ⟨s', m', dd'⟩ a)) = sumTo j fun a => cnt (D a) := by omega
      have es' : (sumTo j fun a => (upd D i ⟨s', m', dd'⟩ a).stage) = sumTo j fun a => (D a).stage := by omega
      rw [ev, es']
      exact Prod.Lex.right _ (by omega)
  · intro e
    rcases htag with rfl | ⟨_, rfl⟩
    · exact hacq e
    · cases e

/-- Whatever step of the starter's but a go statement. -/
theorem callerStep (hO : Ok C) (ha : gs[0]? = some a) (hcom : Com C j gs w t D d0) (hgo : stepG C.P true a w = .go a' w' es) (hrw : ∀ k, k ≤ j → C.RW k w w')
    (hok : ∀ op ∈ MemOp.ofEvents 0 a.frame.fn a.frame.place es, Ok0 C.Sh C.Own C.Rd j op) (hnr : ∀ e ∈ es, e.loc ≠ .mark (.release (stA C.Wg))) (hlow : ∀ e ∈ es, (MemAct.ofEvent e).low C.B)
    (hcs' : CS C Head Anch tag' j f' (deafBehind d0 es) a' w') (hwg : WgAt C.ty C.Wg w' st' sm') (hmode : ConcN.Mode j D tag' st' sm') (hacq : tag' = .ret → AcqAll C (t ++ MemOp.ofEvents 0 a.frame.fn a.frame.place es))
    (hlt : phi C.last (Vc j D) tag' < phi C.last (Vc j D) tag ∨ (phi C.last (Vc j D) tag' = phi C.last (Vc j D) tag ∧ f' < f0)) :
    ∃ m₁ ops μ', runT C.P (crowd gs w sl) 0 = (.next m₁, ops) ∧ Lt2 μ' (phi C.last (Vc j D) tag + Ssum j D, f0 + 2 * Fsum j D) ∧ Inv C Head Anch μ' m₁ (t ++ ops) := by
  have hrun := runT_crowd_go (P := C.P) (sl := sl) (i := 0) ha (by simpa using hgo)
  refine ⟨_, _, (phi C.last (Vc j D) tag' + Ssum j D, f' + 2 * Fsum j D), hrun, ?_, _, w', sl, j, D, tag', f', deafBehind d0 es, a', st', sm', rfl, get_map_set_same _ _ _ (by rw [hcom.size]; omega), hcs', hcom.step0 hO hrw hok hnr hlow, hwg, hmode, hacq, rfl⟩
  rcases hlt with h | ⟨h1, h2⟩
  · exact Prod.Lex.left _ _ (by omega)
  · rw [h1]; exact Prod.Lex.right _ (by omega)

theorem idleC (hO : Ok C) (ha : gs[0]? = some a) (hcom : Com C j gs w t D d0) (hwg : WgAt C.ty C.Wg w st sm) (hmode : ConcN.Mode j D tag st sm) (hacq : tag = .ret → AcqAll C t)
    (hgo : stepG C.P true a w = .go a' w' es) (hD : C.DC j w w' es) (hcs' : CS C Head Anch tag j f' d0 a' w') (hf : f' < f0) :
    ∃ m₁ ops μ', runT C.P (crowd gs w sl) 0 = (.next m₁, ops) ∧ Lt2 μ' (phi C.last (Vc j D) tag + Ssum j D, f0 + 2 * Fsum j D) ∧ Inv C Head Anch μ' m₁ (t ++ ops) := by
  have hev := hO.dcEv _ _ _ _ hD
  have hdf : deafBehind d0 es = d0 := deafBehind_idle (fun e he => ⟨(hev e he).2.1, (hev e he).2.2.1⟩) d0
  exact callerStep hO ha hcom hgo (fun k hk => hO.dcRW _ _ _ _ _ hD hk) (ok0_of hev) (fun e he => (hev e he).2.2.2.1) (fun e he => (hev e he).2.2.2.2) (by rw [hdf]; exact hcs') (hwg.of_block (hO.dcWg _ _ _ _ hD)) hmode
    (fun e => (hacq e).app fun i r _ _ hr => hr.appOther g_of_ofEvents (by omega)) (.inr ⟨rfl, hf⟩)

theorem bookC (hO : Ok C) (ha : gs[0]? = some a) (hcom : Com C j gs w t D d0) (hwg : WgAt C.ty C.Wg w st sm) (hgo : stepG C.P true a w = .go a' w' es) (hAs : Aside C.Wg w w') (hwg' : WgAt C.ty C.Wg w' st' sm') (hbk : ∀ e ∈ es, Bk C.Wg e)
    (hcs' : CS C Head Anch tag' j f' (deafBehind d0 es) a' w') (hmode' : ConcN.Mode j D tag' st' sm') (hne : tag' ≠ .ret) (hlt : phi C.last (Vc j D) tag' < phi C.last (Vc j D) tag ∨ (phi C.last (Vc j D) tag' = phi C.last (Vc j D) tag ∧ f' < f0)) :
    ∃ m₁ ops μ', runT C.P (crowd gs w sl) 0 = (.next m₁, ops) ∧ Lt2 μ' (phi C.last (Vc j D) tag + Ssum j D, f0 + 2 * Fsum j D) ∧ Inv C Head Anch μ' m₁ (t ++ ops) :=
  callerStep hO ha hcom hgo (fun k _ => hO.wgRW k _ _ hAs ⟨_, _, hwg⟩ ⟨_, _, hwg'⟩) (ok0_bk hO hbk) (norel_of_Bk hbk) (low_bk hO hbk) hcs' hwg' hmode' (fun e => absurd e hne) hlt

theorem bk_dis : ∀ e ∈ #[mk .disable], Bk C.Wg e := by intro e he; simp at he; subst he; exact .inl rfl
theorem bk_en : ∀ e ∈ #[mk .enable], Bk C.Wg e := by intro e he; simp at he; subst he; exact .inr (.inl rfl)
theorem bk_rd : ∀ e ∈ #[rd (stA C.Wg)], Bk C.Wg e := by intro e he; simp at he; subst he; exact bk_cell _ _ rfl
theorem bk_wr : ∀ e ∈ #[wr (stA C.Wg)], Bk C.Wg e := by intro e he; simp at he; subst he; exact bk_cell _ _ rfl
theorem bk_rw : ∀ e ∈ #[rd (stA C.Wg), wr (stA C.Wg)], Bk C.Wg e := by intro e he; simp at he; rcases he with rfl | rfl <;> exact bk_cell _ _ rfl
theorem bk_sem : ∀ e ∈ semEvents (smA C.Wg), Bk C.Wg e := by
  intro e he
  simp [semEvents] at he
  rcases he with rfl | rfl | rfl | rfl
  · exact .inl rfl
  · exact bk_cell _ _ rfl
  · exact bk_cell _ _ rfl
  · exact .inr (.inl rfl)

set_option maxHeartbeats 1000000 in
theorem stepWorker (hO : Ok C) (hH : ∀ g w, Head g w → g.status = .running) (hA : ∀ g w, Anch g w → g.status = .running)
    (ha : gs[0]? = some a) (hcs : CS C Head Anch tag j f0 d0 a w) (hcom : Com C j gs w t D d0) (hwg : WgAt C.ty C.Wg w st sm) (hmode : ConcN.Mode j D tag st sm) (hacq : tag = .ret → AcqAll C t)
    {i : Nat} (hi : i < j) {g : Goroutine} (hg : gs[i + 1]? = some g) (hrun : g.status = .running) :
    ∃ m₁ ops μ', runT C.P (crowd gs w sl) (i + 1) = (.next m₁, ops) ∧ Lt2 μ' (phi C.last (Vc j D) tag + Ssum j D, f0 + 2 * Fsum j D) ∧ Inv C Head Anch μ' m₁ (t ++ ops) := by
  obtain ⟨g₁, hg₁, hs⟩ := hcom.wk i hi
  obtain rfl : g = g₁ := by rw [hg] at hg₁; exact Option.some.inj hg₁
  generalize hst : (D i).stage = s at hs
  generalize hfu : (D i).fuel = m at hs
  generalize hde : (D i).deaf = dd at hs
  have hb := hcs.bound hO
  have hnew := vc_new hcom.gone hcom.le
  have hen := hO.enough
  have hdk : Deaf t (i + 1) = dd := by rw [hcom.deafW i hi, hde]
  have young : s ≠ 1 → C.old ≤ i := fun h => Nat.le_of_not_lt fun hlt => h (by rw [← hst]; exact hcom.gone i hlt)
  have nr : s ≠ 1 → tag ≠ .ret := fun h => hmode.not_ret hi (by omega)
  -- a step of the library's bookkeeping behind the release
  have bookG : ∀ {g' : Goroutine} {w' : World} {es : Array Event} {s' m' dd' : Nat} {st' sm' : Int}, stepG C.P false g w = .go g' w' es → Aside C.Wg w w' → WgAt C.ty C.Wg w' st' sm' → (∀ e ∈ es, Bk C.Wg e) →
      (∀ jx e, es[jx]? = some e → (MemAct.ofEvent e).touch? = none ∨ 0 < deafBehind dd (es.extract 0 jx)) → WS C (i + 1) s' m' dd' g' w' → deafBehind dd es = dd' → s ≤ 6 → (i < C.old → s' = 1) → (i < C.old → ∀ e ∈ es, (MemAct.ofEvent e).touch? = none) →
      (∀ tag', (tag' = tag ∨ (tag = .blk ∧ tag' = .w3)) → (mayWake C.P g = true → g'.status = .running → tag' ≠ .blk) → ConcN.Mode j (upd D i ⟨s', m', dd'⟩) tag' st' sm') → (tag = .ret → AcqAll C (t ++ MemOp.ofEvents (i + 1) g.frame.fn g.frame.place es)) → ((s' < s ∧ cnt ⟨s', m', dd'⟩ ≤ cnt (D i)) ∨ (s' = s ∧ m' + 1 = m)) →
      ∃ m₁ ops μ', runT C.P (crowd gs w sl) (i + 1) = (.next m₁, ops) ∧ Lt2 μ' (phi C.last (Vc j D) tag + Ssum j D, f0 + 2 * Fsum j D) ∧ Inv C Head Anch μ' m₁ (t ++ ops) := by
    intro g' w' es s' m' dd' st' sm' hgo hAs hwg' hbk hd hs' hdd h6 hold hmt hmode' hacq' hlt
    have l1 : Live C w := ⟨_, _, hwg⟩
    have l2 : Live C w' := ⟨_, _, hwg'⟩
    exact workerStep hO hH hA ha hcs hcom hi hg hgo (hO.wgRC _ _ hAs l1 l2) (fun k _ => hO.wgRW k _ _ hAs l1 l2) hs' (okW_bk hO hbk) (norel_of_Bk hbk) (by rw [hde]; exact hdd) hold
      (fun ho _ => let ⟨r, hr⟩ := hcom.rel i ho hi (by omega); ⟨r, hr.appTail (hr.by_.book hdk _ _ hbk hd) hbk⟩) (fun ho _ => hO.finRely _ _ _ (hO.wgRW _ _ _ hAs l1 l2) (hcom.fin i ho hi (by omega))) (low_bk hO hbk) hmt hwg' hmode' hacq' (by rw [hst, hfu]; exact hlt)
  have book : ∀ {g' : Goroutine} {w' : World} {es : Array Event} {s' m' dd' : Nat} {st' sm' : Int}, stepG C.P false g w = .go g' w' es → Aside C.Wg w w' → WgAt C.ty C.Wg w' st' sm' → (∀ e ∈ es, Bk C.Wg e) →
      (∀ jx e, es[jx]? = some e → (MemAct.ofEvent e).touch? = none ∨ 0 < deafBehind dd (es.extract 0 jx)) → WS C (i + 1) s' m' dd' g' w' → deafBehind dd es = dd' → s ≤ 6 → (i < C.old → s' = 1) → (i < C.old → ∀ e ∈ es, (MemAct.ofEvent e).touch? = none) →
      ConcN.Mode j (upd D i ⟨s', m', dd'⟩) tag st' sm' → (tag = .ret → AcqAll C (t ++ MemOp.ofEvents (i + 1) g.frame.fn g.frame.place es)) → ((s' < s ∧ cnt ⟨s', m', dd'⟩ ≤ cnt (D i)) ∨ (s' = s ∧ m' + 1 = m)) →
      ∃ m₁ ops μ', runT C.P (crowd gs w sl) (i + 1) = (.next m₁, ops) ∧ Lt2 μ' (phi C.last (Vc j D) tag + Ssum j D, f0 + 2 * Fsum j D) ∧ Inv C Head Anch μ' m₁ (t ++ ops) :=
    fun hgo hAs hwg' hbk hd hs' hdd h6 hold hmt hmode' hacq' hlt => bookG hgo hAs hwg' hbk hd hs' hdd h6 hold hmt (fun _ ht _ => hmode'.retag ht) hacq' hlt
  have idle : ∀ {g' : Goroutine} {m' : Nat}, (∀ w, stepG C.P false g w = .go g' w #[]) → WS C (i + 1) s m' dd g' w → m' + 1 = m → s ≤ 6 → s ≠ 1 →
      ∃ m₁ ops μ', runT C.P (crowd gs w sl) (i + 1) = (.next m₁, ops) ∧ Lt2 μ' (phi C.last (Vc j D) tag + Ssum j D, f0 + 2 * Fsum j D) ∧ Inv C Head Anch μ' m₁ (t ++ ops) := by
    intro g' m' hgo hs' hm h6 h1
    exact book (hgo w) (.refl C.Wg w) hwg (by simp) (by simp) hs' rfl h6 (fun hlt => by have := young h1; omega) (fun _ => by simp) (by have := hmode.same (i := i) m' dd; rwa [hst] at this) (fun e => absurd e (nr h1)) (.inr ⟨rfl, hm⟩)
  have one : ∀ {x : Event} (jx : Nat) (e : Event), (#[x] : Array Event)[jx]? = some e → (MemAct.ofEvent e).touch? = none ∨ 0 < deafBehind 1 ((#[x] : Array Event).extract 0 jx) := by
    intro x jx e he
    match jx, he with
    | 0, _ => exact .inr (by simp [deafBehind])
    | jx + 1, he => simp at he
  cases hs with
  | s7 h =>
    rcases Goes.cases h with hstop | ⟨m', rfl, hstep⟩
    · obtain ⟨_, hfin, g', hgo, m₂, hk⟩ := hstop w (hO.rwRefl _ w)
      exact workerStep hO hH hA ha hcs hcom hi hg (hgo w) (hO.rcRefl w) (fun k _ => hO.rwRefl k w) (.s6 hk) (okW_mute (by intro e he; simp at he; subst he; rfl)) (by intro e he; simp at he; subst he; simp [mk]) (by rw [hde]; rfl)
        (fun hlt => by have := young (by omega); omega) (fun _ _ => ⟨t.size, Rel.new hdk _ _⟩) (fun _ _ => hfin) (by intro e he; simp at he; subst he; exact hO.wgB) (fun hlt => by have := young (by omega); omega) hwg (fun _ ht _ => (hmode.counted hi (by omega) (.inl rfl) _ _).retag ht) (fun e => absurd e (nr (by omega))) (.inl ⟨by omega, by simp [cnt, hst]⟩)
    · obtain ⟨g', w', es, hgo, hD, hg'⟩ := hstep w (hO.rwRefl _ w)
      have hev := hO.dwEv _ _ _ _ hD
      exact workerStep hO hH hA ha hcs hcom hi hg hgo (hO.dwRC _ _ _ _ hD) (fun k e => hO.dwRW _ _ _ _ _ hD e) (.s7 hg') (okW_of hev) (fun e he => (hev e he).2.2.2.1)
        (by rw [hde]; exact deafBehind_idle (fun e he => ⟨(hev e he).2.1, (hev e he).2.2.1⟩) 0) (fun hlt => by have := young (by omega); omega) (fun _ h => by omega) (fun _ h => by omega) (fun e he => (hev e he).2.2.2.2) (fun hlt => by have := young (by omega); omega) (hwg.of_block (hO.dwWg _ _ _ _ hD))
        (fun _ ht _ => ConcN.Mode.retag (by have := hmode.same (i := i) m' 0; rwa [hst] at this) ht) (fun e => absurd e (nr (by omega))) (.inr ⟨hst.symm, by omega⟩)
  | s6 h =>
    rcases h.cases with hstop | ⟨m', rfl, g', hgo, hg'⟩
    · obtain ⟨_, g', hgo, m₂, hk⟩ := hstop
      exact book (hgo w) (.refl C.Wg w) hwg bk_dis (by intro jx e he; exact .inl (by have := Array.mem_of_getElem? he; simp at this; subst this; rfl)) (.s5 hk) rfl (by omega) (fun hlt => by have := young (by omega); omega) (fun hlt => by have := young (by omega); omega)
        (hmode.counted hi (by omega) (.inr rfl) _ _) (fun e => absurd e (nr (by omega))) (.inl ⟨by omega, by simp [cnt, hst]⟩)
    · exact idle hgo (.s6 hg') rfl (by omega) (by omega)
  | s5 h =>
    rcases h.cases with hstop | ⟨m', rfl, g', hgo, hg'⟩
    · obtain ⟨_, hall⟩ := hstop
      have hc1 : cnt (D i) = 1 := by simp [cnt, hst]
      have hV1 : 1 ≤ Vc j D := by have := le_sumTo (f := fun x => cnt (D x)) hi; simp only [Vc]; omega
      have df2 : ∀ jx e, (#[rd (stA C.Wg), wr (stA C.Wg)] : Array Event)[jx]? = some e → (MemAct.ofEvent e).touch? = none ∨ 0 < deafBehind 1 ((#[rd (stA C.Wg), wr (stA C.Wg)] : Array Event).extract 0 jx) := by
        intro jx e he
        match jx, he with
        | 0, _ => exact .inr (by simp [deafBehind])
        | 1, _ => exact .inr (by simp [deafBehind, rd])
        | jx + 2, he => simp at he
      have hq0 : ∀ q, cnt (⟨1, q, 1⟩ : WD) = 0 := fun _ => rfl
      have opq : ∀ q, OpenSt j D → OpenSt j (upd D i ⟨1, q, 1⟩) := fun q h a ha => by
        by_cases e : a = i
        · subst e; rw [upd_same]; simp
        · rw [upd_ne D _ e]; exact h a ha
      have yng := young (by omega)
      cases hmode with
      | opn h1 h2 h3 =>
        obtain ⟨v, hv⟩ : ∃ v, Vc j D + pend tag = v + 1 := ⟨Vc j D + pend tag - 1, by omega⟩
        rw [hv] at hwg
        have hw1 : WgAt C.ty C.Wg w (((v : Nat) + 1) * KK + ((0 : Nat) : Int)) 0 := by simpa using hwg
        obtain ⟨g', hgo, _, hq⟩ := hall w v 0 (by omega) (by omega) hw1
        obtain ⟨q, hq⟩ := hq (by omega)
        have hv' : Vc j (upd D i ⟨1, q, 1⟩) + pend tag = v := by have := Vc_upd D (⟨1, q, 1⟩ : WD) hi; have := hq0 q; omega
        refine book hgo (aside_setCell w (stA C.Wg) _) (hwg.setSt _) bk_rw df2 (.quit hq) rfl (by omega) (fun hlt => by omega) (fun hlt => by omega) ?_ (fun e => absurd e (nr (by omega))) (.inl ⟨by omega, by simp [cnt]⟩)
        have e : ((v : Nat) : Int) * KK + ((0 : Nat) : Int) = ((Vc j (upd D i ⟨1, q, 1⟩) + pend tag : Nat) : Int) * KK := by rw [hv']; simp
        rw [e]
        exact .opn h1 (opq q h2) (fun vs ev => by have := h3 vs ev; omega)
      | reg h1 h2 h3 =>
        obtain ⟨v, hv⟩ : ∃ v, Vc j D = v + 1 := ⟨Vc j D - 1, by omega⟩
        rw [hv] at hwg
        have hw1 : WgAt C.ty C.Wg w (((v : Nat) + 1) * KK + ((1 : Nat) : Int)) 0 := by simpa using hwg
        obtain ⟨g', hgo, hlast, hq⟩ := hall w v 1 (by omega) (by omega) hw1
        by_cases v0 : v = 0
        · subst v0
          obtain ⟨m₂, hk⟩ := hlast ⟨rfl, rfl⟩
          refine book hgo (aside_setCell w (stA C.Wg) _) (hwg.setSt _) bk_rw df2 (.s4 hk) rfl (by omega) (fun hlt => by omega) (fun hlt => by omega) ?_ (fun e => absurd e (nr (by omega))) (.inl ⟨by omega, by simp [cnt]⟩)
          have hoth : ∀ a, a < j → a ≠ i → (D a).stage = 1 := fun a ha e => by
            have c0 := others_uncounted hi hv hc1 a ha e
            have := h2 a ha
            simp only [cnt] at c0
            split at c0 <;> omega
          have := ConcN.Mode.last (j := j) (D := upd D i ⟨4, m₂, 1⟩) (tag := tag) i h1 hi (by rw [upd_same]; simp) (fun a ha e => by rw [upd_ne D _ e]; exact hoth a ha e)
          rw [upd_same] at this
          simpa using this
        · obtain ⟨q, hq⟩ := hq (by omega)
          have hv' : Vc j (upd D i ⟨1, q, 1⟩) = v := by have := Vc_upd D (⟨1, q, 1⟩ : WD) hi; have := hq0 q; omega
          refine book hgo (aside_setCell w (stA C.Wg) _) (hwg.setSt _) bk_rw df2 (.quit hq) rfl (by omega) (fun hlt => by omega) (fun hlt => by omega) ?_ (fun e => absurd e (nr (by omega))) (.inl ⟨by omega, by simp [cnt]⟩)
          have e : ((v : Nat) : Int) * KK + ((1 : Nat) : Int) = ((Vc j (upd D i ⟨1, q, 1⟩) : Nat) : Int) * KK + 1 := by rw [hv']; simp
          rw [e]
          exact .reg h1 (opq q h2) (by omega)
      | last L _ h2 h3 h4 =>
        by_cases e : i = L
        · subst e; omega
        · have := h4 i hi e; omega
      | sema h2 => have := h2 i hi; omega
      | fin _ h2 => have := h2 i hi; omega
    · exact idle hgo (.s5 hg') rfl (by omega) (by omega)
  | s4 h =>
    rcases h.cases with hstop | ⟨m', rfl, g', hgo, hg'⟩
    · obtain ⟨_, hx⟩ := hstop
      obtain ⟨hW3, hoth, rfl, rfl⟩ := hmode.isLast hi (by omega)
      simp only [hst] at hwg
      obtain ⟨g', hgo, m₂, hk⟩ := hx w (by simpa using hwg)
      have yng := young (by omega)
      refine book hgo (.refl C.Wg w) hwg bk_rd one (.s3 hk) rfl (by omega) (fun hlt => by omega) (fun hlt => by omega) ?_ (fun e => absurd e (nr (by omega))) (.inl ⟨by omega, by simp [cnt]⟩)
      have := ConcN.Mode.last (j := j) (D := upd D i ⟨3, m₂, 1⟩) (tag := tag) i hW3 hi (by rw [upd_same]; simp) (fun a ha e => by rw [upd_ne D _ e]; exact hoth a ha e)
      rw [upd_same] at this
      simpa using this
    · exact idle hgo (.s4 hg') rfl (by omega) (by omega)
  | s3 h =>
    rcases h.cases with hstop | ⟨m', rfl, g', hgo, hg'⟩
    · obtain ⟨_, hx⟩ := hstop
      obtain ⟨hW3, hoth, rfl, rfl⟩ := hmode.isLast hi (by omega)
      simp only [hst] at hwg
      obtain ⟨g', hgo, m₂, hk⟩ := hx w (by simpa using hwg)
      have yng := young (by omega)
      refine book hgo (aside_setCell w (stA C.Wg) _) (hwg.setSt 0) bk_wr one (.s2 hk) rfl (by omega) (fun hlt => by omega) (fun hlt => by omega) ?_ (fun e => absurd e (nr (by omega))) (.inl ⟨by omega, by simp [cnt]⟩)
      have := ConcN.Mode.last (j := j) (D := upd D i ⟨2, m₂, 1⟩) (tag := tag) i hW3 hi (by rw [upd_same]; simp) (fun a ha e => by rw [upd_ne D _ e]; exact hoth a ha e)
      rw [upd_same] at this
      simpa using this
    · exact idle hgo (.s3 hg') rfl (by omega) (by omega)
  | s2 h =>
    rcases h.cases with hstop | ⟨m', rfl, g', hgo, hg'⟩
    · obtain ⟨_, hmw, hx⟩ := hstop
      obtain ⟨hW3, hoth, rfl, rfl⟩ := hmode.isLast hi (by omega)
      simp only [hst] at hwg
      obtain ⟨g', hgo, q, hq⟩ := hx w (by simpa using hwg)
      have yng := young (by omega)
      have hrun' : g'.status = .running := by
        cases q with
        | zero => exact absurd hq.2 (by decide)
        | succ q => exact hq.elim (fun x => absurd x.2 (by decide)) (fun x => x.1)
      refine bookG hgo (aside_setCell w (smA C.Wg) _) (hwg.setSm 1) bk_sem ?_ (.quit hq) (by simp [deafBehind, semEvents]) (by omega) (fun hlt => by omega) (fun hlt => by omega) ?_ (fun e => absurd e (nr (by omega))) (.inl ⟨by omega, by simp [cnt]⟩)
      · intro jx e he
        match jx, he with
        | 0, he => simp [semEvents] at he; subst he; exact .inl rfl
        | 1, _ => exact .inr (by simp [deafBehind, semEvents])
        | 2, _ => exact .inr (by simp [deafBehind, semEvents])
        | 3, he => simp [semEvents] at he; subst he; exact .inl rfl
        | jx + 4, he => simp [semEvents] at he
      · intro tag' ht hw
        have hnb := hw hmw hrun'
        have e3 : tag' = .w3 := by
          rcases ht with rfl | ⟨_, rfl⟩
          · cases tag' <;> first | rfl | exact hW3.elim | exact absurd rfl hnb
          · rfl
        subst e3
        simp only [if_true]
        exact .sema fun a ha => by
          by_cases e : a = i
          · subst e; rw [upd_same]
          · rw [upd_ne D _ e]; exact hoth a ha e
    · exact idle hgo (.s2 hg') rfl (by omega) (by omega)
  | quit h =>
    cases m with
    | zero => rw [h.1] at hrun; cases hrun
    | succ q =>
      rcases h with ⟨hf, _⟩ | ⟨_, g', es, hmute, hstep, hq⟩
      · rw [hf] at hrun; cases hrun
      · have hbk : ∀ e ∈ es, Bk C.Wg e := fun e he => bk_of_mute (hmute e he)
        have hno : ∀ e ∈ es, (MemAct.ofEvent e).touch? = none := fun e he => touch_mute (hmute e he)
        have hno' : ∀ jx e, es[jx]? = some e → (MemAct.ofEvent e).touch? = none ∨ 0 < deafBehind dd (es.extract 0 jx) := fun jx e he => .inl (hno e (Array.mem_of_getElem? he))
        have hm' : ConcN.Mode j (upd D i ⟨1, q, deafBehind dd es⟩) tag st sm := by have := hmode.same (i := i) q (deafBehind dd es); rwa [hst] at this
        refine workerStep hO hH hA ha hcs hcom hi hg (hstep w) (hO.rcRefl w) (fun k _ => hO.rwRefl k w) (.quit hq) (okW_mute hno) (norel_of_Bk hbk) (by rw [hde]) (fun _ => rfl)
          (fun ho _ => let ⟨r, hr⟩ := hcom.rel i ho hi (by omega); ⟨r, hr.appTail (hr.by_.book hdk _ _ hbk hno') hbk⟩) (fun ho _ => hcom.fin i ho hi (by omega)) (low_bk hO hbk) (fun _ => hno) hwg (fun _ ht _ => hm'.retag ht) (fun e => (hacq e).app fun i' r ho hi' hr => ?_) (.inr ⟨hst.symm, by omega⟩)
        by_cases e' : i' = i
        · subst e'; exact hr.appTail (hr.by_.book hdk _ _ hbk hno') hbk
        · exact hr.appOther g_of_ofEvents (by omega)
end
end Go.Proofs.Ytadngncbbbbapaa.Crew
