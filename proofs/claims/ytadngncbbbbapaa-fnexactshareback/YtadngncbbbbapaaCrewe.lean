/-
  Between two calls that start workers: what is held of the trace and of the others; from there to there over a start and a wait.
-/
import Derived.Test.YtadngncbbbbapaaCrewd
namespace Go.Proofs.Ytadngncbbbbapaa.Crew
open Go.Conc Go.ConcN
open Go.ConcR (KK wgBlock WgAt stA smA rd wr mk Bk g_of_ofEvents bk_of_mute ofEvent_loc_mark ofEvent_mk ofEvent_cell again_blocked)
set_option linter.unusedVariables false
set_option linter.unusedSectionVars false

/-- What is held of the trace while goroutine 0 alone acts beside others that only leave. -/
structure Fr (Shun : Loc → Prop) (B : Nat) (t : Trace) (L : Nat) : Prop where
  past : Past Shun B t
  quiet : Quiet Shun t
  known : ∀ i a, touchAt t i = some a → Knows t 0 i ∨ Shun a.loc
  gs : ∀ (i : Nat) (op : MemOp), t[i]? = some op → op.g ≤ L

variable {C : Crew} {Head Anch : Goroutine → World → Prop}

theorem low_cell {B : Nat} {op : MemOp} {x : Touch} {a : Addr} (h : op.act.low B) (hx : op.act.touch? = some x) (hl : x.loc = .cell a) : a.block < B := by
  obtain ⟨g, fn, pos, act⟩ := op
  cases act with
  | access e =>
    obtain ⟨loc, wr, sy⟩ := e
    simp only [MemAct.touch?, Option.some.injEq] at hx
    subst hx
    simp only at hl
    subst hl
    exact h
  | mark m =>
    cases m with
    | read b => simp only [MemAct.touch?, Option.some.injEq] at hx; subst hx; cases hl; exact h
    | write b => simp only [MemAct.touch?, Option.some.injEq] at hx; subst hx; cases hl; exact h
    | _ => cases hx
  | _ => cases hx

section
variable {Shun : Loc → Prop} {B : Nat} {t : Trace}
theorem Fr.ct (hO : Ok C) (hF : Fr Shun B t C.old) (hSh : ∀ l, C.Sh l ↔ Shun l ∨ ∃ ad : Addr, l = .cell ad ∧ ad.block = C.Wg) (hB : B ≤ C.Wg) (hOw : ∀ k l, C.Own k l → C.old < k) (hRd : ∀ k l, C.Rd k l → C.old < k) : CT C.Sh C.Own C.Rd t C.old := by
  have key : ∀ i a, touchAt t i = some a → ¬ C.Sh a.loc → Knows t 0 i := fun i a ha hs => (hF.known i a ha).resolve_right fun h => hs ((hSh _).2 (.inl h))
  refine ⟨fun i op x hi hx hs => ?_, fun k _ hk l hl => ?_, fun k _ hk l hl => ?_, fun l hs _ i a ha e => key i a ha (e ▸ hs), fun l hs _ i a ha e _ => key i a ha (e ▸ hs), hF.past.clean, hF.gs⟩
  · rcases (hSh _).1 hs with h | ⟨ad, hl, hb⟩
    · exact hF.quiet i op x hi hx h
    · have := low_cell (hF.past.seen op (Array.mem_of_getElem? hi)) hx hl
      omega
  · have := hOw k l hl; omega
  · have := hRd k l hl; omega
theorem Fr.norel (hF : Fr Shun B t C.old) (hB : B ≤ C.Wg) : NoRelease (stA C.Wg) t := by
  intro i hi
  obtain ⟨op, ho, hoa⟩ := Option.map_eq_some_iff.1 hi
  have := hF.past.seen op (Array.mem_of_getElem? ho)
  rw [hoa] at this
  have h' : C.Wg < B := this
  omega
theorem Fr.elder (hF : Fr Shun B t C.old) (hSh : ∀ l, C.Sh l ↔ Shun l ∨ ∃ ad : Addr, l = .cell ad ∧ ad.block = C.Wg) : OldK C t := fun i g hg h0 _ =>
  ⟨fun a ha => (hF.known i a ha).imp id fun h => (hSh _).2 (.inl h), fun hc => hF.past.over i g hg h0 hc⟩

/-- The first moment. -/
theorem Fr.inv (hO : Ok C) (hF : Fr Shun B t C.old) (hSh : ∀ l, C.Sh l ↔ Shun l ∨ ∃ ad : Addr, l = .cell ad ∧ ad.block = C.Wg) (hB : B ≤ C.Wg) (hB' : B ≤ C.B) (hOw : ∀ k l, C.Own k l → C.old < k) (hRd : ∀ k l, C.Rd k l → C.old < k)
    {gs : Array Goroutine} {a : Goroutine} {w : World} {q : Nat → Nat} (sl : Option (Nat × Nat)) (h0 : gs[0]? = some a) (hsz : gs.size = C.old + 1) (hL : Leavers C.P t gs q) (hwg : WgAt C.ty C.Wg w 0 0) (hsp : Spawns C (Waits C Head) (C.last - C.old) a w) :
    ∃ μ, Inv C Head Anch μ (crowd gs w sl) t := by
  have hcom : Com C C.old gs w t (fun i => ⟨1, q (i + 1), Deaf t (i + 1)⟩) 0 := by
    refine ⟨hsz, Nat.le_refl _, fun i hi => ?_, fun _ _ => rfl, hF.ct hO hSh hB hOw hRd, hF.norel hB, hF.past.hears, fun _ _ => rfl, fun i ho hi => by omega, fun i ho hi => by omega, fun op hop => MemAct.low_mono hB' (hF.past.seen op hop), hF.elder hSh⟩
    have hlt : i + 1 < gs.size := by omega
    exact ⟨gs[i + 1], Array.getElem?_eq_getElem hlt, .quit (hL.old (i + 1) _ (by omega) (Array.getElem?_eq_getElem hlt))⟩
  have hV : Vc C.old (fun i => (⟨1, q (i + 1), Deaf t (i + 1)⟩ : WD)) = 0 := by
    have := vc_new (D := fun i => (⟨1, q (i + 1), Deaf t (i + 1)⟩ : WD)) (o := C.old) (fun _ _ => rfl) (Nat.le_refl _)
    omega
  have hmode : ∀ tag, isOpen tag → pend tag = 0 → (∀ vs, tag ≠ .w2 vs) → ConcN.Mode C.old (fun i => (⟨1, q (i + 1), Deaf t (i + 1)⟩ : WD)) tag 0 0 := fun tag h1 h2 h3 => by
    have := ConcN.Mode.opn (j := C.old) (D := fun i => (⟨1, q (i + 1), Deaf t (i + 1)⟩ : WD)) h1 (fun i hi => by simp) (fun vs e => absurd e (h3 vs))
    rw [hV, h2] at this
    simpa using this
  have hol := hO.oldLast
  cases hr : C.last - C.old with
  | zero =>
    rw [hr] at hsp
    obtain ⟨m, hk⟩ := hsp
    have e : C.old = C.last := by omega
    have hc : CS C Head Anch .kd C.last m 0 a w := .kd hk
    rw [← e] at hc
    exact ⟨_, gs, w, sl, C.old, _, .kd, m, 0, a, 0, 0, rfl, h0, hc, hcom, hwg, hmode .kd trivial rfl (by simp), by simp, rfl⟩
  | succ r =>
    rw [hr] at hsp
    obtain ⟨m, hk⟩ := hsp
    have e : C.last - (r + 1) = C.old := by omega
    have hc : CS C Head Anch (.sp r 5) (C.last - (r + 1)) m 0 a w := .sdi (by omega) hk
    rw [e] at hc
    exact ⟨_, gs, w, sl, C.old, _, .sp r 5, m, 0, a, 0, 0, rfl, h0, hc, hcom, hwg, hmode (.sp r 5) trivial rfl (by simp), by simp, rfl⟩
end

/-- The last moment. -/
theorem Com.leavers (hO : Ok C) {gs : Array Goroutine} {w : World} {t : Trace} {D : Nat → WD} (h : Com C C.last gs w t D 0) (hq : AllQuit C.last D) : Leavers C.P t gs (fun i => (D (i - 1)).fuel) := by
  refine ⟨fun i g hi hg => ?_, fun j hj => Deaf_absent fun i op hi e => ?_⟩
  · obtain ⟨i', rfl⟩ : ∃ i', i = i' + 1 := ⟨i - 1, by omega⟩
    have hlt : i' < C.last := by have := (Array.getElem?_eq_some_iff.1 hg).1; rw [h.size] at this; omega
    obtain ⟨g', hg', hs⟩ := h.wk i' hlt
    rw [hg] at hg'
    cases hg'
    rw [h.deafW i' hlt]
    rcases hs.live hO with ⟨h1, _⟩ | ⟨_, h2⟩
    · exact absurd (hq i' hlt) h1
    · exact h2
  · have := h.ct.gs i op hi
    rw [h.size] at hj
    omega
theorem Com.frame (hO : Ok C) {gs : Array Goroutine} {w : World} {t : Trace} {D : Nat → WD} (h : Com C C.last gs w t D 0) (hq : AllQuit C.last D) (hacq : AcqAll C t) : Fr C.Sh C.B t C.last := by
  obtain ⟨q, hqa, hqg, hqh, hqr⟩ := hacq
  obtain ⟨z, hz, hzg⟩ := Option.map_eq_some_iff.1 hqg
  -- what a worker did ahead of its release the starter knows
  have hbq : ∀ i k, t.g? i = some k → C.old < k → k ≤ C.last → (∃ r, Rel C t k r ∧ (i ≤ r → HappensBefore t i q)) := by
    intro i k hg hk1 hk2
    obtain ⟨r, hr, hrq⟩ := hqr (k - 1) (by omega) (by omega)
    rw [show k - 1 + 1 = k by omega] at hr
    have edge : HappensBefore t r q := .single (.inr ⟨.marked hrq (.inr hr.by_.act) hqa (fun k _ _ => h.norel k), hr.by_.heard, hqh⟩)
    refine ⟨r, hr, fun hle => ?_⟩
    rcases Nat.lt_or_ge i r with hlt | hge
    · exact .trans (.single (.inl ⟨hlt, k, hg, hr.by_.g⟩)) edge
    · obtain rfl : i = r := by omega
      exact edge
  have known : ∀ i a, touchAt t i = some a → Knows t 0 i ∨ C.Sh a.loc := by
    intro i a ha
    obtain ⟨op, ho, hoa⟩ := touch_of ha
    have hg : t.g? i = some op.g := by simp [Trace.g?, ho]
    have hle := h.ct.gs i op ho
    by_cases h0 : op.g = 0
    · have := knows_own ho; rw [h0] at this; exact .inl this
    rcases Nat.lt_or_ge C.old op.g with hy | hy
    · obtain ⟨r, hr, hb⟩ := hbq i op.g hg hy hle
      rcases Nat.lt_or_ge r i with hlt | hge
      · obtain ⟨ad, hl, hbk⟩ := hr.tail i a hlt hg ha
        rw [hl]; exact .inr (hO.wgSh ad hbk)
      · exact .inl ⟨q, z, hz, hzg, .inr (hb hge)⟩
    · exact (h.elder i op.g hg h0 hy).1 a ha
  refine ⟨⟨h.ct.nr, fun i a ha hm => ?_, fun i g hg h0 hc => ?_, h.deaf0, h.seen⟩, h.ct.quiet, known, h.ct.gs⟩
  · rcases known i a ha with hk | hs
    · exact .inl hk
    · obtain ⟨op, ho, hoa⟩ := touch_of ha
      obtain ⟨hp, hsd⟩ := h.ct.quiet i op a ho hoa hs
      cases hk : a.kind with
      | plain => exact absurd hk hp
      | atomic => exact .inr ⟨hs, rfl⟩
      | said => have := knows_own ho; rw [hsd hk] at this; exact .inl this
  · obtain ⟨op, ho, rfl⟩ := Option.map_eq_some_iff.1 hg
    rcases Nat.lt_or_ge C.old op.g with hy | hy
    · obtain ⟨r, hr, hb⟩ := hbq i op.g hg hy (h.ct.gs i op ho)
      exact ⟨q, hqg, hb (Nat.le_of_not_lt fun hlt => hr.by_.after i hlt hg hc)⟩
    · exact (h.elder i op.g hg h0 hy).2 hc

/-- From a start to behind the wait, on whatever tape. -/
theorem phase {Shun : Loc → Prop} {B : Nat} {t : Trace} (hO : Ok C) (hH : ∀ g w, Head g w → g.status = .running) (hA : ∀ g w, Anch g w → g.status = .running) (hAt : ∀ g w d, Anch g (w.at d) → Anch g w) (hHd : ∀ g w, Head g w → ∃ m, Goes C.P true C.RC (C.DC C.last) (AtW1 C Head Anch) m g w)
    (hSh : ∀ l, C.Sh l ↔ Shun l ∨ ∃ ad : Addr, l = .cell ad ∧ ad.block = C.Wg) (hB : B ≤ C.Wg) (hB' : B ≤ C.B) (hOw : ∀ k l, C.Own k l → C.old < k) (hRd : ∀ k l, C.Rd k l → C.old < k)
    {gs : Array Goroutine} {a : Goroutine} {w : World} {q : Nat → Nat} (sl : Option (Nat × Nat)) (h0 : gs[0]? = some a) (hsz : gs.size = C.old + 1) (hL : Leavers C.P t gs q) (hF : Fr Shun B t C.old) (hwg : WgAt C.ty C.Wg w 0 0) (hsp : Spawns C (Waits C Head) (C.last - C.old) a w) :
    ∃ (N : Nat) (gs' : Array Goroutine) (a' : Goroutine) (w' : World) (sl' : Option (Nat × Nat)) (t' : Trace) (q' : Nat → Nat),
      runNT C.P N (crowd gs w sl) t = (.next (crowd gs' w' sl'), t') ∧ gs'.size = C.last + 1 ∧ gs'[0]? = some a' ∧ Anch a' w' ∧ (∀ i, C.old ≤ i → i < C.last → C.Fin (i + 1) w') ∧ Leavers C.P t' gs' q' ∧ Fr C.Sh C.B t' C.last := by
  obtain ⟨μ, hI⟩ := hF.inv (Head := Head) (Anch := Anch) hO hSh hB hB' hOw hRd sl h0 hsz hL hwg hsp
  obtain ⟨N, m', t', hr, gs', w', sl', D, a', rfl, h0', hAn, hcom, hq, hacq⟩ := crew_runs hO hH hA hAt hHd μ _ _ hI
  exact ⟨N, gs', a', w', sl', t', _, hr, hcom.size, h0', hAn, fun i ho hi => hcom.fin i ho hi (by rw [hq i hi]; omega), hcom.leavers hO hq, hcom.frame hO hq hacq⟩
end Go.Proofs.Ytadngncbbbbapaa.Crew
