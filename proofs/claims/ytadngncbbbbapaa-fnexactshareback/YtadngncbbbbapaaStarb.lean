/-
  The regions of the starter's loop, in company.
-/
import Derived.Test.YtadngncbbbbapaaStar
namespace Go.Proofs.Ytadngncbbbbapaa.Lift
open Go.Conc Go.Proofs.Ytadngncbbbbapaa.Crew Go.RowKit
open Go.ConcR (WgAt stA smA)
set_option linter.unusedVariables false
set_option linter.unusedSimpArgs false
noncomputable def bodyC : Code := Try.f40.body.getD .skip
noncomputable def rg5 : Code := match bodyC with | .seq _ (.seq _ (.seq _ (.seq _ (.seq (.seq x _) _)))) => x | _ => .skip
noncomputable def lbC : Code := match bodyC with | .seq _ (.seq _ (.seq _ (.seq _ (.seq (.seq _ (.block _ (.loop x))) _)))) => x | _ => .skip
noncomputable def tlC : Code := match bodyC with | .seq _ (.seq _ (.seq _ (.seq _ (.seq _ x)))) => x | _ => .skip
noncomputable def rg6 : Code := match lbC with | .seq (.seq x _) _ => x | _ => .skip
noncomputable def rg8 : Code := match lbC with | .seq _ (.seq (.block _ (.seq x _)) _) => x | _ => .skip
noncomputable def rg11 : Code := match lbC with | .seq _ (.seq _ (.seq (.seq x _) _)) => x | _ => .skip
noncomputable def rg12 : Code := match lbC with | .seq _ (.seq _ (.seq (.seq _ x) _)) => x | _ => .skip
noncomputable def rg7 : Code := match lbC with | .seq _ (.seq _ (.seq _ x)) => x | _ => .skip
def IsT (H : Hdr) (Wg fb : Nat) (a : Act) : Prop := a.tmps = TS H Wg fb (fun i => a.tmps.getD i undef) ∧ a.defers = []
theorem IsT.form {H : Hdr} {Wg fb : Nat} {a : Act} (h : IsT H Wg fb a) : ∃ u, a = ⟨TS H Wg fb u, []⟩ := by
  obtain ⟨tm, df⟩ := a
  obtain ⟨h1, h2⟩ := h
  simp only at h1 h2
  subst h2
  exact ⟨_, congrArg (fun x => (⟨x, []⟩ : Act)) h1⟩
section
variable {J : Job} {H : Hdr} {w0 : World} {sz fb tb : Nat} {fv tv : Int} {j : Nat}
set_option maxRecDepth 100000 in
set_option maxHeartbeats 4000000 in
theorem reg6 (I : H.In J w0) (h1 : J.top j ≤ fb) (h2 : fb < J.Wg + 2 + 2 * J.cnt) : ∃ N, ∀ u w, SF J w0 sz fb fv w → rg6.wpC Try.prog true J.RC (J.DC j) 40 N (fun e a' w' => e = .normal ∧ IsT H J.Wg fb a' ∧ a'.tmps.getD 33 undef = .bool (decide (fv < (J.n : Int))) ∧ SF J w0 sz fb fv w') ⟨TS H J.Wg fb u, []⟩ w := by
  have T := J.termsC j
  co_apply Exists.intro
  intro u w hF
  simp only [rg6, lbC, bodyC, Try.f40, Option.getD_some, TS]
  co_reg T
  co_opw (SF.rely I) hF (have hc := hF.fr.cell) (refine dcRead _ ?_; co_evs (exact ev_high I false h1 h2))
  co_opw (SF.rely I) hF (have hc := (hF.toSB.low I.aL I.aO).trans I.ca) (refine dcRead _ ?_; co_evs (exact ev_low I I.aL I.aO I.aS))
  co_op (SF.rely I) hF (co_quiet T)
  co_op (SF.rely I) hF (co_quiet T)
  co_apply opsC_nil T
  exact ⟨rfl, ⟨rfl, rfl⟩, rfl, hF⟩
/-- Ahead of the loop. -/
structure S0 (J : Job) (w0 : World) (sz : Nat) (w : World) : Prop extends SB J w0 w where
  size : w.heap.size = sz
  low : J.Wg < sz
theorem S0.rely {w w₁ : World} (h : S0 J w0 sz w) (r : J.RC w w₁) : S0 J w0 sz w₁ := ⟨h.toSB.rely r, r.size.trans h.size, h.low⟩
theorem S0.alloc (I : H.In J w0) {w : World} (h : S0 J w0 sz w) : SF J w0 (sz + 1) sz 0 (w.alloc (.cells #[.int .i64 0] 3)) := by
  have hsz := h.size
  have hlo := h.low
  refine ⟨h.toSB.alloc I (by omega) _, by simp [hsz], h.low, ?_⟩
  rw [← hsz]
  exact IBox.new w
def TS0 (H : Hdr) (Wg : Nat) (u : Nat → Value) : Array Value := #[u 0, u 1, u 2, .pointer (some ⟨H.op, 0, none⟩), .pointer (some ⟨H.a, 0, none⟩), .pointer (some ⟨H.b, 0, none⟩), u 6, u 7, .pointer (some ⟨H.ou, 0, none⟩), .pointer (some ⟨Wg, 0, none⟩), u 10, u 11, u 12, u 13, u 14, u 15, u 16, u 17, u 18, u 19, u 20, u 21, u 22, u 23, u 24, u 25, u 26, u 27, u 28, u 29, u 30, u 31, u 32, u 33, u 34, u 35, u 36, u 37, u 38, u 39, u 40, u 41, u 42, u 43, u 44, u 45]
set_option maxRecDepth 100000 in
set_option maxHeartbeats 4000000 in
theorem reg5 (I : H.In J w0) (h1 : J.top j ≤ sz) (h2 : sz < J.Wg + 2 + 2 * J.cnt) : ∃ N, ∀ u w, S0 J w0 sz w → rg5.wpC Try.prog true J.RC (J.DC j) 40 N (fun e a' w' => e = .normal ∧ IsT H J.Wg sz a' ∧ SF J w0 (sz + 1) sz 0 w') ⟨TS0 H J.Wg u, []⟩ w := by
  have T := J.termsC j
  co_apply Exists.intro
  intro u w hF
  simp only [rg5, bodyC, Try.f40, Option.getD_some, TS0]
  co_reg T
  co_opw S0.rely hF (skip) (refine dcAlloc (by have := hF.size; omega) _ ?_; co_evs (skip))
  have hs := hF.size
  rw [hs]
  replace hF := hF.alloc I
  clear hs
  co_opw (SF.rely I) hF (have hc := hF.fr.cell; have hz := hF.fr.thaw) (refine dcSet h1 _ ?_; co_evs (exact ev_high I true h1 h2))
  replace hF := hF.set I 0
  co_apply opsC_nil T
  exact ⟨rfl, ⟨rfl, rfl⟩, hF⟩
set_option maxRecDepth 100000 in
set_option maxHeartbeats 4000000 in
theorem reg8 (I : H.In J w0) (h1 : J.top j ≤ fb) (h2 : sz < J.Wg + 2 + 2 * J.cnt) (h3 : fb < sz) (q : Nat) (hq : fv = (q : Int)) (hq' : q ≤ 100) : ∃ N, ∀ u w, SF J w0 sz fb fv w → rg8.wpC Try.prog true J.RC (J.DC j) 40 N (fun e a' w' => e = .normal ∧ IsT H J.Wg fb a' ∧ a'.tmps.getD 11 undef = .pointer (some ⟨sz, 0, none⟩) ∧ SG J w0 (sz + 1) fb fv sz ((min (q + 5) J.n : Nat) : Int) w') ⟨TS H J.Wg fb u, []⟩ w := by
  have T := J.termsC j
  subst hq
  have hn := I.n
  have ew : IntKind.i64.wrap ((q : Int) + 5) = (q : Int) + 5 := by rw [IntKind.wrap_i64]; omega
  co_apply Exists.intro
  intro u w hF
  simp only [rg8, lbC, bodyC, Try.f40, Option.getD_some, TS]
  co_reg T
  co_opw (SF.rely I) hF (have hc := hF.fr.cell) (refine dcRead _ ?_; co_evs (exact ev_high I false h1 (by omega)))
  co_op (SF.rely I) hF (co_quiet T)
  co_opw (SF.rely I) hF (have hc := (hF.toSB.low I.aL I.aO).trans I.ca) (refine dcRead _ ?_; co_evs (exact ev_low I I.aL I.aO I.aS))
  co_op (SF.rely I) hF (co_quiet T)
  co_opw (SF.rely I) hF (skip) (rw [listed_nil (by simp [go_sem, builtin, invoke, resolve, Builtin.min_, Builtin.min2])]; exact Terms.idle T _)
  co_opw (SF.rely I) hF (skip) (refine dcAlloc (by have := hF.size; omega) _ ?_; co_evs (skip))
  have hs := hF.size
  rw [hs]
  replace hF := hF.alloc I
  clear hs
  have em : (if (J.n : Int) < (q : Int) + 5 then (J.n : Int) else (q : Int) + 5) = ((min (q + 5) J.n : Nat) : Int) := by split <;> omega
  rw [em]
  co_opw (SG.rely I) hF (have hc := hF.to.cell; have hz := hF.to.thaw) (refine dcSet (by omega) _ ?_; co_evs (exact ev_high I true (by omega) h2))
  replace hF := hF.set I ((min (q + 5) J.n : Nat) : Int)
  co_apply opsC_nil T
  exact ⟨rfl, ⟨rfl, rfl⟩, rfl, hF⟩
set_option maxRecDepth 100000 in
set_option maxHeartbeats 4000000 in
theorem reg11 (I : H.In J w0) (h1 : J.Wg < fb) (h2 : fb < J.Wg + 2 + 2 * J.cnt) : ∃ N, ∀ u w, SF J w0 sz fb fv w → rg11.wpC Try.prog true J.RC (J.DC j) 40 N (fun e a' w' => e = .normal ∧ IsT H J.Wg fb a' ∧ a'.tmps.getD 43 undef = .int .i64 fv ∧ SF J w0 sz fb fv w') ⟨TS H J.Wg fb u, []⟩ w := by
  have T := J.termsC j
  co_apply Exists.intro
  intro u w hF
  simp only [rg11, lbC, bodyC, Try.f40, Option.getD_some, TS]
  co_reg T
  co_opw (SF.rely I) hF (have hc := hF.fr.cell) (refine dcRead _ ?_; co_evs (exact J.ev0 I.fit false (by show fb ≠ J.Wg; omega) (by show fb ≠ J.Ob; have := I.fit.ob; omega) (I.highS fb (by omega)) h2 (by simp)))
  co_apply opsC_nil T
  exact ⟨rfl, ⟨rfl, rfl⟩, rfl, hF⟩
set_option maxRecDepth 100000 in
set_option maxHeartbeats 4000000 in
theorem reg12 (I : H.In J w0) (h1 : J.top j ≤ sz) (h2 : sz < J.Wg + 2 + 2 * J.cnt) : ∃ N, ∀ u w, u 43 = .int .i64 fv → SF J w0 sz fb fv w → rg12.wpC Try.prog true J.RC (J.DC j) 40 N (fun e a' w' => e = .normal ∧ IsT H J.Wg sz a' ∧ SF J w0 (sz + 1) sz fv w') ⟨TS H J.Wg fb u, []⟩ w := by
  have T := J.termsC j
  co_apply Exists.intro
  intro u w hu hF
  simp only [rg12, lbC, bodyC, Try.f40, Option.getD_some, TS, hu]
  co_reg T
  co_opw (SF.rely I) hF (skip) (refine dcAlloc (by have := hF.size; omega) _ ?_; co_evs (skip))
  have hs := hF.size
  rw [hs]
  replace hF := hF.alloc I
  clear hs
  co_opw (SG.rely I) hF (have hc := hF.to.cell; have hz := hF.to.thaw) (refine dcSet h1 _ ?_; co_evs (exact ev_high I true h1 h2))
  replace hF := (hF.set I fv).new
  co_apply opsC_nil T
  exact ⟨rfl, ⟨rfl, rfl⟩, hF⟩
set_option maxRecDepth 100000 in
set_option maxHeartbeats 4000000 in
theorem reg7 (I : H.In J w0) (h1 : J.top j ≤ fb) (h2 : fb < J.Wg + 2 + 2 * J.cnt) (hq : 0 ≤ fv) (hq' : fv ≤ 100) : ∃ N, ∀ u w, SF J w0 sz fb fv w → rg7.wpC Try.prog true J.RC (J.DC j) 40 N (fun e a' w' => e = .normal ∧ IsT H J.Wg fb a' ∧ SF J w0 sz fb (fv + 5) w') ⟨TS H J.Wg fb u, []⟩ w := by
  have T := J.termsC j
  have ew : IntKind.i64.wrap (fv + 5) = fv + 5 := by rw [IntKind.wrap_i64]; omega
  co_apply Exists.intro
  intro u w hF
  simp only [rg7, lbC, bodyC, Try.f40, Option.getD_some, TS]
  co_reg T
  co_opw (SF.rely I) hF (have hc := hF.fr.cell) (refine dcRead _ ?_; co_evs (exact ev_high I false h1 h2))
  co_op (SF.rely I) hF (co_quiet T)
  co_opw (SF.rely I) hF (have hc := hF.fr.cell; have hz := hF.fr.thaw) (refine dcSet h1 _ ?_; co_evs (exact ev_high I true h1 h2))
  replace hF := hF.set I (fv + 5)
  co_apply opsC_nil T
  exact ⟨rfl, ⟨rfl, rfl⟩, hF⟩
end
end Go.Proofs.Ytadngncbbbbapaa.Lift
