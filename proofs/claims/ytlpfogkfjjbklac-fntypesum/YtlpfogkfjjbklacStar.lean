/-
  The starter: what it holds of the world, and the regions of its loop.
  The regions of the starter's loop, in company.
  The starter's way between its regions.
  The starter: all workers are started, and waited for.
  The starter's loop: from its head to the wait.
  From the making of the group to behind the wait.
  combine's goroutines, whole: from the making of the group to behind the wait.
-/
import Derived.Test.YtlpfogkfjjbklacWork
import Derived.Test.YtlpfogkfjjbklacWga
import Derived.Test.YtlpfogkfjjbklacBase
namespace Go.Proofs.Ytlpfogkfjjbklac.Lift
open Go.Conc Go.Proofs.Ytlpfogkfjjbklac.Crew Go.RowKit
open Go.ConcR (WgAt stA smA)
set_option linter.unusedVariables false
set_option linter.unusedSimpArgs false
/-- The starter's variables: their boxes; the slices a and b. -/
structure Hdr where
  op : Nat
  a : Nat
  b : Nat
  ou : Nat
  ca : Nat
  cb : Nat
  pa : Option Addr
  pb : Option Addr
  f : FuncId
/-- In the world in which the group was made. -/
structure Hdr.In (J : Job) (H : Hdr) (w0 : World) : Prop where
  fit : J.Fit
  size : w0.heap.size = J.Wg
  opL : H.op < J.Wg
  aL : H.a < J.Wg
  bL : H.b < J.Wg
  ouL : H.ou < J.Wg
  opO : H.op ≠ J.Ob
  aO : H.a ≠ J.Ob
  bO : H.b ≠ J.Ob
  ouO : H.ou ≠ J.Ob
  opS : ¬ J.S H.op
  aS : ¬ J.S H.a
  bS : ¬ J.S H.b
  ouS : ¬ J.S H.ou
  cop : w0.cell? ⟨H.op, 0, none⟩ = some (.func (.func H.f) #[] #[])
  ca : w0.cell? ⟨H.a, 0, none⟩ = some (.slice H.pa J.n H.ca)
  cb : w0.cell? ⟨H.b, 0, none⟩ = some (.slice H.pb J.n H.cb)
  cou : w0.cell? ⟨H.ou, 0, none⟩ = some (.slice (some ⟨J.Ob, 0, none⟩) J.n J.n)
  n : J.n ≤ 20
  highS : ∀ b, J.Wg ≤ b → ¬ J.S b
/-- A box of an int. -/
def IBox (w : World) (b : Nat) (v : Int) : Prop := w.heap[b]? = some (.cells #[.int .i64 v] 3 (0, 0))
theorem IBox.cell {w : World} {b : Nat} {v : Int} (h : IBox w b v) : w.cell? ⟨b, 0, none⟩ = some (.int .i64 v) := by unfold IBox at h; simp [World.cell?, h]
theorem IBox.thaw {w : World} {b : Nat} {v : Int} (h : IBox w b v) : w.frozen? ⟨b, 0, none⟩ = false := by unfold IBox at h; simp [World.frozen?, h]
theorem IBox.lt {w : World} {b : Nat} {v : Int} (h : IBox w b v) : b < w.heap.size := (Array.getElem?_eq_some_iff.1 h).1
theorem IBox.set {w : World} {b : Nat} {v : Int} (h : IBox w b v) (v' : Int) : IBox (w.setCell ⟨b, 0, none⟩ (.int .i64 v')) b v' := by
  unfold IBox at *
  rw [setCell_eq_setRow w b 0 _ 3 (0, 0) _ h, setRow_heap w b _ _ 3 _ h]
  rfl
theorem IBox.new (w : World) : IBox (w.alloc (.cells #[.int .i64 0] 3)) w.heap.size 0 := heap_alloc_new w _
/-- What the starter holds. -/
structure SB (J : Job) (w0 w : World) : Prop where
  os : w.os = w0.os
  tape : w.tape = w0.tape
  output : w.output = w0.output
  live : J.Lv w
  block : ∀ b, b < J.Wg → b ≠ J.Ob → w.heap[b]? = w0.heap[b]?
  out : J.Shp w0 w
structure SF (J : Job) (w0 : World) (sz fb : Nat) (fv : Int) (w : World) : Prop extends SB J w0 w where
  size : w.heap.size = sz
  low : J.Wg < fb
  fr : IBox w fb fv
structure SG (J : Job) (w0 : World) (sz fb : Nat) (fv : Int) (tb : Nat) (tv : Int) (w : World) : Prop extends SF J w0 sz fb fv w where
  lowT : J.Wg < tb
  ne : tb ≠ fb
  to : IBox w tb tv
section
variable {J : Job} {H : Hdr} {w0 w w₁ : World} {sz fb tb : Nat} {fv tv : Int} {j : Nat}
theorem SB.rely (h : SB J w0 w) (r : J.RC w w₁) : SB J w0 w₁ := ⟨r.os.trans h.os, r.tape.trans h.tape, r.output.trans h.output, r.live h.live, fun b h1 h2 => (r.block b (by omega) h2).trans (h.block b h1 h2), fun cs hc => by
  obtain ⟨c1, h1, h2⟩ := h.out cs hc
  obtain ⟨cs', h3, h4⟩ := r.shp c1 h1
  exact ⟨cs', h3, h4.trans h2⟩⟩
theorem SF.rely (I : H.In J w0) (h : SF J w0 sz fb fv w) (r : J.RC w w₁) : SF J w0 sz fb fv w₁ := ⟨h.toSB.rely r, r.size.trans h.size, h.low, (r.block fb (by have := h.low; omega) (by have := h.low; have := I.fit.ob; omega)).trans h.fr⟩
theorem SG.rely (I : H.In J w0) (h : SG J w0 sz fb fv tb tv w) (r : J.RC w w₁) : SG J w0 sz fb fv tb tv w₁ := ⟨h.toSF.rely I r, h.lowT, h.ne, (r.block tb (by have := h.lowT; omega) (by have := h.lowT; have := I.fit.ob; omega)).trans h.to⟩
theorem SB.alloc (I : H.In J w0) (h : SB J w0 w) (hs : J.Wg < w.heap.size) (o : Obj) : SB J w0 (w.alloc o) := by
  have hb : ∀ b, b ≤ J.Wg → (w.alloc o).heap[b]? = w.heap[b]? := fun b hb => Below.heap_alloc _ _ _ (by omega)
  obtain ⟨st, sm, hl⟩ := h.live
  refine ⟨h.os, h.tape, h.output, ⟨st, sm, (hb _ (Nat.le_refl _)).trans hl⟩, fun b h1 h2 => (hb b (by omega)).trans (h.block b h1 h2), fun cs hc => ?_⟩
  obtain ⟨c1, h1, h2⟩ := h.out cs hc
  exact ⟨c1, (hb _ (by have := I.fit.ob; omega)).trans h1, h2⟩
theorem SB.set (I : H.In J w0) (h : SB J w0 w) {b : Nat} (hb : J.Wg < b) (v : Value) : SB J w0 (w.setCell ⟨b, 0, none⟩ v) := by
  have hs : ∀ c, c ≠ b → (w.setCell ⟨b, 0, none⟩ v).heap[c]? = w.heap[c]? := fun c hc => Below.heap_setCell _ _ _ _ hc
  obtain ⟨st, sm, hl⟩ := h.live
  refine ⟨h.os, h.tape, h.output, ⟨st, sm, (hs _ (by omega)).trans hl⟩, fun c h1 h2 => (hs c (by omega)).trans (h.block c h1 h2), fun cs hc => ?_⟩
  obtain ⟨c1, h1, h2⟩ := h.out cs hc
  exact ⟨c1, (hs _ (by have := I.fit.ob; omega)).trans h1, h2⟩
theorem SF.alloc (I : H.In J w0) (h : SF J w0 sz fb fv w) : SG J w0 (sz + 1) fb fv sz 0 (w.alloc (.cells #[.int .i64 0] 3)) := by
  have hlt := h.fr.lt
  have hsz := h.size
  have hlo := h.low
  refine ⟨⟨h.toSB.alloc I (by omega) _, by simp [hsz], h.low, (Below.heap_alloc _ _ _ hlt).trans h.fr⟩, by omega, by omega, ?_⟩
  rw [← hsz]
  exact IBox.new w
theorem SG.set (I : H.In J w0) (h : SG J w0 sz fb fv tb tv w) (v : Int) : SG J w0 sz fb fv tb v (w.setCell ⟨tb, 0, none⟩ (.int .i64 v)) :=
  ⟨⟨h.toSB.set I h.lowT _, by simpa [World.setCell] using h.size, h.low, (Below.heap_setCell _ _ _ _ (Ne.symm h.ne)).trans h.fr⟩, h.lowT, h.ne, h.to.set v⟩
theorem SF.set (I : H.In J w0) (h : SF J w0 sz fb fv w) (v : Int) : SF J w0 sz fb v (w.setCell ⟨fb, 0, none⟩ (.int .i64 v)) :=
  ⟨h.toSB.set I h.low _, by simpa [World.setCell] using h.size, h.low, h.fr.set v⟩
theorem SG.new (h : SG J w0 sz fb fv tb tv w) : SF J w0 sz tb tv w := ⟨h.toSB, h.size, h.lowT, h.to⟩
/-- The group alone turns. -/
theorem SB.grp (I : H.In J w0) (h : SB J w0 w) {ad : Addr} (ha : ad.block = J.Wg) {v : Value} (hl : J.Lv (w.setCell ad v)) : SB J w0 (w.setCell ad v) := by
  have hs : ∀ c, c ≠ J.Wg → (w.setCell ad v).heap[c]? = w.heap[c]? := fun c hc => Below.heap_setCell _ _ _ _ (by rw [ha]; exact hc)
  refine ⟨h.os, h.tape, h.output, hl, fun c h1 h2 => (hs c (by omega)).trans (h.block c h1 h2), fun cs hc => ?_⟩
  obtain ⟨c1, h1, h2⟩ := h.out cs hc
  exact ⟨c1, (hs _ (by have := I.fit.ob; omega)).trans h1, h2⟩
theorem SF.grp (I : H.In J w0) (h : SF J w0 sz fb fv w) {ad : Addr} (ha : ad.block = J.Wg) {v : Value} (hl : J.Lv (w.setCell ad v)) : SF J w0 sz fb fv (w.setCell ad v) :=
  ⟨h.toSB.grp I ha hl, by simpa [World.setCell] using h.size, h.low, (Below.heap_setCell _ _ _ _ (by rw [ha]; have := h.low; omega)).trans h.fr⟩
theorem SG.grp (I : H.In J w0) (h : SG J w0 sz fb fv tb tv w) {ad : Addr} (ha : ad.block = J.Wg) {v : Value} (hl : J.Lv (w.setCell ad v)) : SG J w0 sz fb fv tb tv (w.setCell ad v) :=
  ⟨h.toSF.grp I ha hl, h.lowT, h.ne, (Below.heap_setCell _ _ _ _ (by rw [ha]; have := h.lowT; omega)).trans h.to⟩
theorem SB.low (h : SB J w0 w) {b : Nat} (h1 : b < J.Wg) (h2 : b ≠ J.Ob) : w.cell? ⟨b, 0, none⟩ = w0.cell? ⟨b, 0, none⟩ := World.cell?_of_block (h.block b h1 h2)
/-! what the starter may do -/
theorem dcRead (w : World) {es : Array Event} (h : ∀ e ∈ es, Ev0 J.core j e) : J.DC j w w es := ⟨Nat.le_refl _, fun _ _ => rfl, h⟩
theorem dcAlloc {w : World} (h : J.top j ≤ w.heap.size) (o : Obj) {es : Array Event} (he : ∀ e ∈ es, Ev0 J.core j e) : J.DC j w (w.alloc o) es := ⟨by simp, fun b hb => Below.heap_alloc _ _ _ (by omega), he⟩
theorem dcSet {w : World} {b : Nat} (h : J.top j ≤ b) (v : Value) {es : Array Event} (he : ∀ e ∈ es, Ev0 J.core j e) : J.DC j w (w.setCell ⟨b, 0, none⟩ v) es := ⟨by simp [World.setCell], fun c hc => Below.heap_setCell _ _ _ _ (by show c ≠ b; omega), he⟩
theorem ev_low (I : H.In J w0) {b : Nat} (h1 : b < J.Wg) (h2 : b ≠ J.Ob) (h3 : ¬ J.S b) : Ev0 J.core j ⟨.cell ⟨b, 0, none⟩, false, false⟩ := J.ev0 I.fit false (by show b ≠ J.Wg; omega) h2 h3 (by show b < _; omega) (by simp)
theorem ev_high (I : H.In J w0) {b : Nat} (wr : Bool) (h1 : J.top j ≤ b) (h2 : b < J.Wg + 2 + 2 * J.cnt) : Ev0 J.core j ⟨.cell ⟨b, 0, none⟩, wr, false⟩ := by
  have : J.Wg < b := by unfold Job.top at h1; omega
  exact J.ev0 I.fit wr (by show b ≠ J.Wg; omega) (by show b ≠ J.Ob; have := I.fit.ob; omega) (I.highS b (by omega)) h2 (fun _ => h1)
end
/-- The starter's temporaries. -/
def TS (H : Hdr) (Wg fb : Nat) (u : Nat → Value) : Array Value := #[u 0, u 1, u 2, .pointer (some ⟨H.op, 0, none⟩), .pointer (some ⟨H.a, 0, none⟩), .pointer (some ⟨H.b, 0, none⟩), u 6, u 7, .pointer (some ⟨H.ou, 0, none⟩), .pointer (some ⟨Wg, 0, none⟩), .pointer (some ⟨fb, 0, none⟩), u 11, u 12, u 13, u 14, u 15, u 16, u 17, u 18, u 19, u 20, u 21, u 22, u 23, u 24, u 25, u 26, u 27, u 28, u 29, u 30, u 31, u 32, u 33, u 34, u 35, u 36, u 37, u 38, u 39, u 40, u 41, u 42, u 43, u 44, u 45]
end Go.Proofs.Ytlpfogkfjjbklac.Lift
namespace Go.Proofs.Ytlpfogkfjjbklac.Lift
open Go.Conc Go.Proofs.Ytlpfogkfjjbklac.Crew Go.RowKit
open Go.ConcR (WgAt stA smA)
set_option linter.unusedVariables false
set_option linter.unusedSimpArgs false
noncomputable def bodyC : Code := Try.f16.body.getD .skip
noncomputable def rg5 : Code := match bodyC with | .seq _ (.seq _ (.seq _ (.seq _ (.seq (.seq x _) _)))) => x | _ => .skip
noncomputable def lbC : Code := match bodyC with | .seq _ (.seq _ (.seq _ (.seq _ (.seq (.seq _ (.block _ (.loop x))) _)))) => x | _ => .skip
noncomputable def tlC : Code := match bodyC with | .seq _ (.seq _ (.seq _ (.seq _ (.seq _ x)))) => x | _ => .skip
noncomputable def rg6 : Code := match lbC with | .seq (.seq x _) _ => x | _ => .skip
noncomputable def rg8 : Code := match lbC with | .seq _ (.seq (.block _ (.seq x _)) _) => x | _ => .skip
noncomputable def rg11 : Code := match lbC with | .seq _ (.seq _ (.seq (.seq x _) _)) => x | _ => .skip
noncomputable def rg12 : Code := match lbC with | .seq _ (.seq _ (.seq (.seq _ x) _)) => x | _ => .skip
noncomputable def rg7 : Code := match lbC with | .seq _ (.seq _ (.seq _ x)) => x | _ => .skip
def IsT (H : Hdr) (Wg fb : Nat) (a : Act) : Prop := a.tmps = TS H Wg fb (fun i => a.tmps.getD i undef) ∧ a.defers = []
theorem IsT.form {H : Hdr} {Wg fb : Nat} {a : Act} (h : IsT H Wg fb a) : ∃ u, a = ⟨TS H Wg fb u, []⟩ := by
  obtain ⟨tm, df⟩ := a
  obtain ⟨h1, h2⟩ := h
  simp only at h1 h2
  subst h2
  exact ⟨_, congrArg (fun x => (⟨x, []⟩ : Act)) h1⟩
section
variable {J : Job} {H : Hdr} {w0 : World} {sz fb tb : Nat} {fv tv : Int} {j : Nat}
set_option maxRecDepth 100000 in
set_option maxHeartbeats 4000000 in
theorem reg6 (I : H.In J w0) (h1 : J.top j ≤ fb) (h2 : fb < J.Wg + 2 + 2 * J.cnt) : ∃ N, ∀ u w, SF J w0 sz fb fv w → rg6.wpC Try.prog true J.RC (J.DC j) 16 N (fun e a' w' => e = .normal ∧ IsT H J.Wg fb a' ∧ a'.tmps.getD 33 undef = .bool (decide (fv < (J.n : Int))) ∧ SF J w0 sz fb fv w') ⟨TS H J.Wg fb u, []⟩ w := by
  have T := J.termsC j
  co_apply Exists.intro
  intro u w hF
  simp only [rg6, lbC, bodyC, Try.f16, Option.getD_some, TS]
  co_reg T
  co_opw (SF.rely I) hF (have hc := hF.fr.cell) (refine dcRead _ ?_; co_evs (exact ev_high I false h1 h2))
  co_opw (SF.rely I) hF (have hc := (hF.toSB.low I.aL I.aO).trans I.ca) (refine dcRead _ ?_; co_evs (exact ev_low I I.aL I.aO I.aS))
  co_op (SF.rely I) hF (co_quiet T)
  co_op (SF.rely I) hF (co_quiet T)
  co_apply opsC_nil T
  exact ⟨rfl, ⟨rfl, rfl⟩, rfl, hF⟩
/-- Ahead of the loop. -/
structure S0 (J : Job) (w0 : World) (sz : Nat) (w : World) : Prop extends SB J w0 w where
  size : w.heap.size = sz
  low : J.Wg < sz
theorem S0.rely {w w₁ : World} (h : S0 J w0 sz w) (r : J.RC w w₁) : S0 J w0 sz w₁ := ⟨h.toSB.rely r, r.size.trans h.size, h.low⟩
theorem S0.alloc (I : H.In J w0) {w : World} (h : S0 J w0 sz w) : SF J w0 (sz + 1) sz 0 (w.alloc (.cells #[.int .i64 0] 3)) := by
  have hsz := h.size
  have hlo := h.low
  refine ⟨h.toSB.alloc I (by omega) _, by simp [hsz], h.low, ?_⟩
  rw [← hsz]
  exact IBox.new w
def TS0 (H : Hdr) (Wg : Nat) (u : Nat → Value) : Array Value := #[u 0, u 1, u 2, .pointer (some ⟨H.op, 0, none⟩), .pointer (some ⟨H.a, 0, none⟩), .pointer (some ⟨H.b, 0, none⟩), u 6, u 7, .pointer (some ⟨H.ou, 0, none⟩), .pointer (some ⟨Wg, 0, none⟩), u 10, u 11, u 12, u 13, u 14, u 15, u 16, u 17, u 18, u 19, u 20, u 21, u 22, u 23, u 24, u 25, u 26, u 27, u 28, u 29, u 30, u 31, u 32, u 33, u 34, u 35, u 36, u 37, u 38, u 39, u 40, u 41, u 42, u 43, u 44, u 45]
set_option maxRecDepth 100000 in
set_option maxHeartbeats 4000000 in
theorem reg5 (I : H.In J w0) (h1 : J.top j ≤ sz) (h2 : sz < J.Wg + 2 + 2 * J.cnt) : ∃ N, ∀ u w, S0 J w0 sz w → rg5.wpC Try.prog true J.RC (J.DC j) 16 N (fun e a' w' => e = .normal ∧ IsT H J.Wg sz a' ∧ SF J w0 (sz + 1) sz 0 w') ⟨TS0 H J.Wg u, []⟩ w := by
  have T := J.termsC j
  co_apply Exists.intro
  intro u w hF
  simp only [rg5, bodyC, Try.f16, Option.getD_some, TS0]
  co_reg T
  co_opw S0.rely hF (skip) (refine dcAlloc (by have := hF.size; omega) _ ?_; co_evs (skip))
  have hs := hF.size
  rw [hs]
  replace hF := hF.alloc I
  clear hs
  co_opw (SF.rely I) hF (have hc := hF.fr.cell; have hz := hF.fr.thaw) (refine dcSet h1 _ ?_; co_evs (exact ev_high I true h1 h2))
  replace hF := hF.set I 0
  co_apply opsC_nil T
  exact ⟨rfl, ⟨rfl, rfl⟩, hF⟩
set_option maxRecDepth 100000 in
set_option maxHeartbeats 4000000 in
theorem reg8 (I : H.In J w0) (h1 : J.top j ≤ fb) (h2 : sz < J.Wg + 2 + 2 * J.cnt) (h3 : fb < sz) (q : Nat) (hq : fv = (q : Int)) (hq' : q ≤ 100) : ∃ N, ∀ u w, SF J w0 sz fb fv w → rg8.wpC Try.prog true J.RC (J.DC j) 16 N (fun e a' w' => e = .normal ∧ IsT H J.Wg fb a' ∧ a'.tmps.getD 11 undef = .pointer (some ⟨sz, 0, none⟩) ∧ SG J w0 (sz + 1) fb fv sz ((min (q + 5) J.n : Nat) : Int) w') ⟨TS H J.Wg fb u, []⟩ w := by
  have T := J.termsC j
  subst hq
  have hn := I.n
  have ew : IntKind.i64.wrap ((q : Int) + 5) = (q : Int) + 5 := by rw [IntKind.wrap_i64]; omega
  co_apply Exists.intro
  intro u w hF
  simp only [rg8, lbC, bodyC, Try.f16, Option.getD_some, TS]
  co_reg T
  co_opw (SF.rely I) hF (have hc := hF.fr.cell) (refine dcRead _ ?_; co_evs (exact ev_high I false h1 (by omega)))
  co_op (SF.rely I) hF (co_quiet T)
  co_opw (SF.rely I) hF (have hc := (hF.toSB.low I.aL I.aO).trans I.ca) (refine dcRead _ ?_; co_evs (exact ev_low I I.aL I.aO I.aS))
  co_op (SF.rely I) hF (co_quiet T)
  co_opw (SF.rely I) hF (skip) (rw [listed_nil (by simp [go_sem, builtin, invoke, resolve, Builtin.min_, Builtin.min2])]; exact Terms.idle T _)
  co_opw (SF.rely I) hF (skip) (refine dcAlloc (by have := hF.size; omega) _ ?_; co_evs (skip))
  have hs := hF.size
  rw [hs]
  replace hF := hF.alloc I
  clear hs
  have em : (if (J.n : Int) < (q : Int) + 5 then (J.n : Int) else (q : Int) + 5) = ((min (q + 5) J.n : Nat) : Int) := by split <;> omega
  rw [em]
  co_opw (SG.rely I) hF (have hc := hF.to.cell; have hz := hF.to.thaw) (refine dcSet (by omega) _ ?_; co_evs (exact ev_high I true (by omega) h2))
  replace hF := hF.set I ((min (q + 5) J.n : Nat) : Int)
  co_apply opsC_nil T
  exact ⟨rfl, ⟨rfl, rfl⟩, rfl, hF⟩
set_option maxRecDepth 100000 in
set_option maxHeartbeats 4000000 in
theorem reg11 (I : H.In J w0) (h1 : J.Wg < fb) (h2 : fb < J.Wg + 2 + 2 * J.cnt) : ∃ N, ∀ u w, SF J w0 sz fb fv w → rg11.wpC Try.prog true J.RC (J.DC j) 16 N (fun e a' w' => e = .normal ∧ IsT H J.Wg fb a' ∧ a'.tmps.getD 43 undef = .int .i64 fv ∧ SF J w0 sz fb fv w') ⟨TS H J.Wg fb u, []⟩ w := by
  have T := J.termsC j
  co_apply Exists.intro
  intro u w hF
  simp only [rg11, lbC, bodyC, Try.f16, Option.getD_some, TS]
  co_reg T
  co_opw (SF.rely I) hF (have hc := hF.fr.cell) (refine dcRead _ ?_; co_evs (exact J.ev0 I.fit false (by show fb ≠ J.Wg; omega) (by show fb ≠ J.Ob; have := I.fit.ob; omega) (I.highS fb (by omega)) h2 (by simp)))
  co_apply opsC_nil T
  exact ⟨rfl, ⟨rfl, rfl⟩, rfl, hF⟩
set_option maxRecDepth 100000 in
set_option maxHeartbeats 4000000 in
theorem reg12 (I : H.In J w0) (h1 : J.top j ≤ sz) (h2 : sz < J.Wg + 2 + 2 * J.cnt) : ∃ N, ∀ u w, u 43 = .int .i64 fv → SF J w0 sz fb fv w → rg12.wpC Try.prog true J.RC (J.DC j) 16 N (fun e a' w' => e = .normal ∧ IsT H J.Wg sz a' ∧ SF J w0 (sz + 1) sz fv w') ⟨TS H J.Wg fb u, []⟩ w := by
  have T := J.termsC j
  co_apply Exists.intro
  intro u w hu hF
  simp only [rg12, lbC, bodyC, Try.f16, Option.getD_some, TS, hu]
  co_reg T
  co_opw (SF.rely I) hF (skip) (refine dcAlloc (by have := hF.size; omega) _ ?_; co_evs (skip))
  have hs := hF.size
  rw [hs]
  replace hF := hF.alloc I
  clear hs
  co_opw (SG.rely I) hF (have hc := hF.to.cell; have hz := hF.to.thaw) (refine dcSet h1 _ ?_; co_evs (exact ev_high I true h1 h2))
  replace hF := (hF.set I fv).new
  co_apply opsC_nil T
  exact ⟨rfl, ⟨rfl, rfl⟩, hF⟩
set_option maxRecDepth 100000 in
set_option maxHeartbeats 4000000 in
theorem reg7 (I : H.In J w0) (h1 : J.top j ≤ fb) (h2 : fb < J.Wg + 2 + 2 * J.cnt) (hq : 0 ≤ fv) (hq' : fv ≤ 100) : ∃ N, ∀ u w, SF J w0 sz fb fv w → rg7.wpC Try.prog true J.RC (J.DC j) 16 N (fun e a' w' => e = .normal ∧ IsT H J.Wg fb a' ∧ SF J w0 sz fb (fv + 5) w') ⟨TS H J.Wg fb u, []⟩ w := by
  have T := J.termsC j
  have ew : IntKind.i64.wrap (fv + 5) = fv + 5 := by rw [IntKind.wrap_i64]; omega
  co_apply Exists.intro
  intro u w hF
  simp only [rg7, lbC, bodyC, Try.f16, Option.getD_some, TS]
  co_reg T
  co_opw (SF.rely I) hF (have hc := hF.fr.cell) (refine dcRead _ ?_; co_evs (exact ev_high I false h1 h2))
  co_op (SF.rely I) hF (co_quiet T)
  co_opw (SF.rely I) hF (have hc := hF.fr.cell; have hz := hF.fr.thaw) (refine dcSet h1 _ ?_; co_evs (exact ev_high I true h1 h2))
  replace hF := hF.set I (fv + 5)
  co_apply opsC_nil T
  exact ⟨rfl, ⟨rfl, rfl⟩, hF⟩
end
end Go.Proofs.Ytlpfogkfjjbklac.Lift
namespace Go.Proofs.Ytlpfogkfjjbklac.Lift
open Go.Conc Go.Proofs.Ytlpfogkfjjbklac.Crew Go.RowKit
open Go.Proofs.Ytlpfogkfjjbklac.Wgs (cf gAdd gWait goes_nxs nxs didL askL)
open Go.ConcR (WgAt stA smA)
set_option linter.unusedVariables false
local notation "PP" => Try.prog
noncomputable def ops4 : Array Oper := match bodyC with | .seq _ (.seq _ (.seq _ (.seq (.region _ x _) _))) => x | _ => #[]
noncomputable def aft4 : Code := match bodyC with | .seq _ (.seq _ (.seq _ (.seq _ x))) => x | _ => .skip
noncomputable def ops9 : Array Oper := match lbC with | .seq _ (.seq (.block _ (.seq _ (.seq (.region _ x _) _))) _) => x | _ => #[]
noncomputable def rg10 : Code := match lbC with | .seq _ (.seq (.block _ (.seq _ (.seq _ x))) _) => x | _ => .skip
noncomputable def c910 : Code := match lbC with | .seq _ (.seq (.block _ (.seq _ x)) _) => x | _ => .skip
noncomputable def ops10 : Array Oper := match rg10 with | .region _ x _ => x | _ => #[]
noncomputable def rest1 : Code := match lbC with | .seq _ x => x | _ => .skip
noncomputable def rest2 : Code := match lbC with | .seq _ (.seq _ x) => x | _ => .skip
noncomputable def ops13 : Array Oper := match tlC with | .seq (.region _ x _) _ => x | _ => #[]
noncomputable def tl14 : Code := match tlC with | .seq _ x => x | _ => .skip
noncomputable def lpT : List Item := [.inLoop lbC, .inBlock 0, .code tlC]
noncomputable def hdT : List Item := .code lbC :: lpT
noncomputable def tdA : List Item := .inRegion ops9 [0] :: .code rg10 :: .inBlock 1 :: .code rest2 :: lpT
noncomputable def tdW : List Item := [.inRegion ops13 [0], .code tl14]
noncomputable def gAt (tm : Array Value) (td : List Item) (cs : List Frame) : Goroutine := G ((base 16).at ⟨tm, []⟩ td) cs
/-- behind the making of the group -/
theorem e1 (tm : Array Value) (cs : List Frame) : nxs PP true 3 (gAt tm [.inRegion ops4 [], .code aft4] cs) = gAt tm [.code rg5, .code (.block 0 (.loop lbC)), .code tlC] cs := by kernel_rfl
theorem i1 (tm : Array Value) (cs : List Frame) (w : World) : didL PP true 3 (gAt tm [.inRegion ops4 [], .code aft4] cs) w = askL PP true 3 (gAt tm [.inRegion ops4 [], .code aft4] cs) w := by kernel_rfl
theorem e2 (tm : Array Value) (cs : List Frame) : nxs PP true 2 (gAt tm [.code (.block 0 (.loop lbC)), .code tlC] cs) = gAt tm hdT cs := by kernel_rfl
theorem i2 (tm : Array Value) (cs : List Frame) (w : World) : didL PP true 2 (gAt tm [.code (.block 0 (.loop lbC)), .code tlC] cs) w = askL PP true 2 (gAt tm [.code (.block 0 (.loop lbC)), .code tlC] cs) w := by kernel_rfl
theorem e3 (tm : Array Value) (cs : List Frame) : nxs PP true 2 (gAt tm hdT cs) = gAt tm (.code rg6 :: .code (.cond (.tmp 33) .skip (.exit 0)) :: .code rest1 :: lpT) cs := by kernel_rfl
theorem i3 (tm : Array Value) (cs : List Frame) (w : World) : didL PP true 2 (gAt tm hdT cs) w = askL PP true 2 (gAt tm hdT cs) w := by kernel_rfl
theorem e4 (tm : Array Value) (cs : List Frame) : nxs PP true 4 (gAt tm (.code .skip :: .code rest1 :: lpT) cs) = gAt tm (.code rg8 :: .code c910 :: .inBlock 1 :: .code rest2 :: lpT) cs := by kernel_rfl
theorem i4 (tm : Array Value) (cs : List Frame) (w : World) : didL PP true 4 (gAt tm (.code .skip :: .code rest1 :: lpT) cs) w = askL PP true 4 (gAt tm (.code .skip :: .code rest1 :: lpT) cs) w := by kernel_rfl
theorem e5 (H : Hdr) (Wg fb : Nat) (u : Nat → Value) (cs : List Frame) : nxs PP true 3 (gAt (TS H Wg fb u) (.code c910 :: .inBlock 1 :: .code rest2 :: lpT) cs) = gAdd (TS H Wg fb u) tdA cs Wg := by kernel_rfl
theorem i5 (H : Hdr) (Wg fb : Nat) (u : Nat → Value) (cs : List Frame) (w : World) : didL PP true 3 (gAt (TS H Wg fb u) (.code c910 :: .inBlock 1 :: .code rest2 :: lpT) cs) w = askL PP true 3 (gAt (TS H Wg fb u) (.code c910 :: .inBlock 1 :: .code rest2 :: lpT) cs) w := by kernel_rfl
theorem e6 (H : Hdr) (Wg fb : Nat) (u : Nat → Value) (cs : List Frame) : nxs PP true 4 (gAt (TS H Wg fb u) (.code (.exit 0) :: .code rest1 :: lpT) cs) = gWait (TS H Wg fb u) tdW cs Wg := by kernel_rfl
theorem i6 (H : Hdr) (Wg fb : Nat) (u : Nat → Value) (cs : List Frame) (w : World) : didL PP true 4 (gAt (TS H Wg fb u) (.code (.exit 0) :: .code rest1 :: lpT) cs) w = askL PP true 4 (gAt (TS H Wg fb u) (.code (.exit 0) :: .code rest1 :: lpT) cs) w := by kernel_rfl
/-- with the stretch's end -/
def TS1 (H : Hdr) (Wg fb tb : Nat) (u : Nat → Value) : Array Value := #[u 0, u 1, u 2, .pointer (some ⟨H.op, 0, none⟩), .pointer (some ⟨H.a, 0, none⟩), .pointer (some ⟨H.b, 0, none⟩), u 6, u 7, .pointer (some ⟨H.ou, 0, none⟩), .pointer (some ⟨Wg, 0, none⟩), .pointer (some ⟨fb, 0, none⟩), .pointer (some ⟨tb, 0, none⟩), u 12, u 13, u 14, u 15, u 16, u 17, u 18, u 19, u 20, u 21, u 22, u 23, u 24, u 25, u 26, u 27, u 28, u 29, u 30, u 31, u 32, u 33, u 34, u 35, u 36, u 37, u 38, u 39, u 40, u 41, u 42, u 43, u 44, u 45]
theorem ts1 {H : Hdr} {Wg fb tb : Nat} {u : Nat → Value} (h : u 11 = .pointer (some ⟨tb, 0, none⟩)) : TS H Wg fb u = TS1 H Wg fb tb u := by simp only [TS, TS1, h]
noncomputable def gGo (H : Hdr) (Wg fb tb : Nat) (u : Nat → Value) (cs : List Frame) : Goroutine := nxs PP true 3 (G ((cf (TS1 H Wg fb tb u) tdA).finish (.tuple #[])) cs)
theorem i7 (H : Hdr) (Wg fb tb : Nat) (u : Nat → Value) (cs : List Frame) (w : World) : didL PP true 3 (G ((cf (TS1 H Wg fb tb u) tdA).finish (.tuple #[])) cs) w = askL PP true 3 (G ((cf (TS1 H Wg fb tb u) tdA).finish (.tuple #[])) cs) w := by kernel_rfl
theorem r7 (H : Hdr) (Wg fb tb : Nat) (u : Nat → Value) (cs : List Frame) : (gGo H Wg fb tb u cs).status = .running := by kernel_rfl
noncomputable def uGo (H : Hdr) (Wg fb tb : Nat) (u : Nat → Value) (cs : List Frame) (i : Nat) : Value := (gGo H Wg fb tb u cs).frame.tmps.getD i undef
theorem s7 (H : Hdr) (Wg fb tb : Nat) (u : Nat → Value) (cs : List Frame) (w : World) : stepG PP true (gGo H Wg fb tb u cs) w = .spawn (gAt (TS H Wg fb (uGo H Wg fb tb u cs)) (.inRegion ops10 [] :: .inBlock 1 :: .code rest2 :: lpT) cs) (born PP (dgo Wg H.ou fb tb H.op H.a H.b)) w #[] := by kernel_rfl
theorem e8 (tm : Array Value) (cs : List Frame) : nxs PP true 4 (gAt tm (.inRegion ops10 [] :: .inBlock 1 :: .code rest2 :: lpT) cs) = gAt tm (.code rg11 :: .code rg12 :: .code rg7 :: lpT) cs := by kernel_rfl
theorem i8 (tm : Array Value) (cs : List Frame) (w : World) : didL PP true 4 (gAt tm (.inRegion ops10 [] :: .inBlock 1 :: .code rest2 :: lpT) cs) w = askL PP true 4 (gAt tm (.inRegion ops10 [] :: .inBlock 1 :: .code rest2 :: lpT) cs) w := by kernel_rfl
theorem e9 (tm : Array Value) (cs : List Frame) : nxs PP true 1 (gAt tm lpT cs) = gAt tm hdT cs := by kernel_rfl
theorem i9 (tm : Array Value) (cs : List Frame) (w : World) : didL PP true 1 (gAt tm lpT cs) w = askL PP true 1 (gAt tm lpT cs) w := by kernel_rfl
end Go.Proofs.Ytlpfogkfjjbklac.Lift
namespace Go.Proofs.Ytlpfogkfjjbklac.Lift
open Go.Conc Go.Proofs.Ytlpfogkfjjbklac.Crew Go.RowKit
open Go.Proofs.Ytlpfogkfjjbklac.Wgs (cf gAdd gWait goes_nxs nxs didL askL Hires Awaits HeadW AnchW add_goes wait_goes)
open Go.ConcR (KK WgAt stA smA)
set_option linter.unusedVariables false
/-- What is in a and b, and what is to be made of them. -/
structure Dat (J : Job) (H : Hdr) (w0 : World) (g : Int → Int → Int) (ab ao bb bo : Nat) (xs ys : Nat → Int) : Prop where
  I : H.In J w0
  P : J.P = Try.prog
  cnt : J.cnt = (J.n + 4) / 5
  isOp : IsOp H.f g
  pa : 0 < J.n → H.pa = some ⟨ab, ao, none⟩
  pb : 0 < J.n → H.pb = some ⟨bb, bo, none⟩
  aL : 0 < J.n → ab < J.Wg ∧ ab ≠ J.Ob ∧ ¬ J.S ab
  bL : 0 < J.n → bb < J.Wg ∧ bb ≠ J.Ob ∧ ¬ J.S bb
  xa : ∀ t, t < J.n → w0.cell? ⟨ab, ao + t, none⟩ = some (.int .i64 (xs t))
  yb : ∀ t, t < J.n → w0.cell? ⟨bb, bo + t, none⟩ = some (.int .i64 (ys t))
  okX : ∀ t, t < J.n → Fp.ok (xs t) = true
  okY : ∀ t, t < J.n → Fp.ok (ys t) = true
  fx : ∀ t, t < J.n → J.fx t = g (xs t) (ys t)
  ca : J.n ≤ H.ca
  cb : J.n ≤ H.cb
  ob : 0 < J.n → ∃ cs, w0.heap[J.Ob]? = some (.cells cs J.oty (0, 0)) ∧ cs.size = J.n
section
variable {J : Job} {H : Hdr} {w0 : World} {g : Int → Int → Int} {ab ao bb bo : Nat} {xs ys : Nat → Int} (D : Dat J H w0 g ab ao bb bo xs ys)
def strI (J : Job) (ab ao bb bo : Nat) (xs ys : Nat → Int) (i : Nat) : Str := { ab := ab, ao := ao + 5 * i, bb := bb, bo := bo + 5 * i, lo := 5 * i, m := min (5 * i + 5) J.n - 5 * i, X := fun t => xs (5 * i + t), Y := fun t => ys (5 * i + t) }
def bxsI (J : Job) (H : Hdr) (ao bo i : Nat) : Bxs := { ou := H.ou, fr := J.Wg + 1 + 2 * i, to := J.Wg + 2 + 2 * i, op := H.op, a := H.a, b := H.b, ao := ao, bo := bo, ca := H.ca, cb := H.cb }
include D
theorem Dat.bxs {i : Nat} (hi : i < J.cnt) : (bxsI J H ao bo i).Fits J (J.old + i + 1) (strI J ab ao bb bo xs ys i) := by
  have hc := D.cnt
  have hn : 5 * i < J.n := by omega
  have hI := D.I
  have ht : J.top (J.old + i + 1) = J.Wg + 3 + 2 * i := by unfold Job.top; omega
  obtain ⟨a1, a2, a3⟩ := D.aL (by omega)
  obtain ⟨b1, b2, b3⟩ := D.bL (by omega)
  have hob := hI.fit.ob
  refine ⟨⟨hI.fit, by omega, by omega, by show ab ≠ _; omega, a2, a3, by rw [ht]; show ab < _; omega, by show bb ≠ _; omega, b2, b3, by rw [ht]; show bb < _; omega, fun t h => ?_, fun t h => ?_, fun t h => ?_, ?_⟩, ?_, ?_, ?_, ?_, ?_, ?_, ?_, ?_, D.ca, D.cb, rfl, rfl, by have := hI.n; omega⟩
  · have h' : t < min (5 * i + 5) J.n - 5 * i := h
    show J.old < J.old + i + 1 ∧ 5 * (J.old + i + 1 - J.old - 1) ≤ 5 * i + t ∧ 5 * i + t < 5 * (J.old + i + 1 - J.old - 1) + 5 ∧ 5 * i + t < J.n
    omega
  · have h' : t < min (5 * i + 5) J.n - 5 * i := h
    exact D.okX _ (by omega)
  · have h' : t < min (5 * i + 5) J.n - 5 * i := h
    exact D.okY _ (by omega)
  · show min (5 * i + 5) J.n - 5 * i ≤ 100; omega
  · exact ⟨by have := hI.ouL; show H.ou ≠ _; omega, hI.ouO, hI.ouS, by rw [ht]; have := hI.ouL; show H.ou < _; omega⟩
  · exact ⟨by show J.Wg + 1 + 2 * i ≠ _; omega, by show J.Wg + 1 + 2 * i ≠ _; omega, hI.highS _ (by show J.Wg ≤ J.Wg + 1 + 2 * i; omega), by rw [ht]; show J.Wg + 1 + 2 * i < _; omega⟩
  · exact ⟨by show J.Wg + 2 + 2 * i ≠ _; omega, by show J.Wg + 2 + 2 * i ≠ _; omega, hI.highS _ (by show J.Wg ≤ J.Wg + 2 + 2 * i; omega), by rw [ht]; show J.Wg + 2 + 2 * i < _; omega⟩
  · exact ⟨by have := hI.opL; show H.op ≠ _; omega, hI.opO, hI.opS, by rw [ht]; have := hI.opL; show H.op < _; omega⟩
  · exact ⟨by have := hI.aL; show H.a ≠ _; omega, hI.aO, hI.aS, by rw [ht]; have := hI.aL; show H.a < _; omega⟩
  · exact ⟨by have := hI.bL; show H.b ≠ _; omega, hI.bO, hI.bS, by rw [ht]; have := hI.bL; show H.b < _; omega⟩
  · show 0 < min (5 * i + 5) J.n - 5 * i; omega
  · show 5 * i + (min (5 * i + 5) J.n - 5 * i) ≤ J.n; omega
theorem Dat.wk {i sz : Nat} {w : World} (hi : i < J.cnt) (h : SG J w0 sz (J.Wg + 1 + 2 * i) ((5 * i : Nat) : Int) (J.Wg + 2 + 2 * i) ((min (5 * i + 5) J.n : Nat) : Int) w) : WK J (J.old + i + 1) (strI J ab ao bb bo xs ys i) H.f (bxsI J H ao bo i) w := by
  have hc := D.cnt
  have hn : 5 * i < J.n := by omega
  have hI := D.I
  obtain ⟨a1, a2, a3⟩ := D.aL (by omega)
  obtain ⟨b1, b2, b3⟩ := D.bL (by omega)
  obtain ⟨c0, p1, p2⟩ := D.ob (by omega)
  obtain ⟨cs, o1, o2⟩ := h.out c0 p1
  refine ⟨⟨h.live, fun t ht => ?_, fun t ht => ?_, fun t ht => ?_, fun t h1 => by omega⟩, (h.toSB.low hI.ouL hI.ouO).trans hI.cou, h.fr.cell, ?_, (h.toSB.low hI.opL hI.opO).trans hI.cop, ?_, ?_⟩
  · have ht' : t < min (5 * i + 5) J.n - 5 * i := ht
    show w.cell? ⟨ab, ao + 5 * i + t, none⟩ = some (.int .i64 (xs (5 * i + t)))
    rw [World.cell?_of_block (w := w0) (h.block ab a1 a2), show ao + 5 * i + t = ao + (5 * i + t) by omega]
    exact D.xa _ (by omega)
  · have ht' : t < min (5 * i + 5) J.n - 5 * i := ht
    show w.cell? ⟨bb, bo + 5 * i + t, none⟩ = some (.int .i64 (ys (5 * i + t)))
    rw [World.cell?_of_block (w := w0) (h.block bb b1 b2), show bo + 5 * i + t = bo + (5 * i + t) by omega]
    exact D.yb _ (by omega)
  · have ht' : t < min (5 * i + 5) J.n - 5 * i := ht
    have hlt : 5 * i + t < cs.size := by omega
    exact ⟨⟨cs[5 * i + t], by show w.cell? ⟨J.Ob, 5 * i + t, none⟩ = _; simp [World.cell?, o1, hlt]⟩, by show w.frozen? ⟨J.Ob, 5 * i + t, none⟩ = _; simp [World.frozen?, o1]⟩
  · have := h.to.cell
    show w.cell? ⟨J.Wg + 2 + 2 * i, 0, none⟩ = some (.int .i64 ((5 * i + (min (5 * i + 5) J.n - 5 * i) : Nat) : Int))
    rw [show 5 * i + (min (5 * i + 5) J.n - 5 * i) = min (5 * i + 5) J.n by omega]
    exact this
  · show w.cell? ⟨H.a, 0, none⟩ = some (.slice (some ⟨ab, ao, none⟩) J.n H.ca)
    rw [h.toSB.low hI.aL hI.aO, hI.ca, D.pa (by omega)]
  · show w.cell? ⟨H.b, 0, none⟩ = some (.slice (some ⟨bb, bo, none⟩) J.n H.cb)
    rw [h.toSB.low hI.bL hI.bO, hI.cb, D.pb (by omega)]
theorem Dat.worker {i sz : Nat} (hi : i < J.cnt) : ∃ N, ∀ w, SG J w0 sz (J.Wg + 1 + 2 * i) ((5 * i : Nat) : Int) (J.Wg + 2 + 2 * i) ((min (5 * i + 5) J.n : Nat) : Int) w → Goes J.crew.P false (J.crew.RW (J.old + i + 1)) (J.crew.DW (J.old + i + 1)) (S7 J.crew (J.old + i + 1)) N (born Try.prog (dgo J.Wg H.ou (J.Wg + 1 + 2 * i) (J.Wg + 2 + 2 * i) H.op H.a H.b)) w := by
  have hc := D.cnt
  have hn := D.I.n
  have F := D.bxs hi
  obtain ⟨N, h⟩ := worker_goes D.P (by omega) F D.isOp (fun t ht => by
    have ht' : t < min (5 * i + 5) J.n - 5 * i := ht
    exact D.fx (5 * i + t) (by omega)) (fun t ht => by
    obtain ⟨h1, h2, h3, h4⟩ := ht
    exact ⟨t - 5 * i, by show t - 5 * i < min (5 * i + 5) J.n - 5 * i; omega, by show t = 5 * i + (t - 5 * i); omega⟩)
  exact ⟨N, fun w hw => h w (D.wk hi hw)⟩
theorem Dat.hires (j sz fb tb : Nat) (fv tv : Int) : Hires J.crew j (SG J w0 sz fb fv tb tv) := by
  have T := J.termsC j
  refine ⟨T.trans, fun w => (Job.ok D.I.fit).rcRefl w, T.idle, fun w => dcRead w fun e he => ?_, fun w w' r => r.live, fun w w' r h => h.rely D.I r, fun w h => h.live, fun w x st h hw => h.grp D.I rfl ⟨_, _, hw.setSt x⟩⟩
  rw [Array.mem_singleton] at he
  subst he
  exact evM_job _ (.inl rfl)
theorem Dat.awaits (sz fb : Nat) (fv : Int) : Awaits J.crew (SF J w0 sz fb fv) := by
  have T := J.termsC (J.old + J.cnt)
  refine ⟨⟨T.trans, fun w => (Job.ok D.I.fit).rcRefl w, T.idle, fun w => dcRead w fun e he => ?_, fun w w' r => r.live, fun w w' r h => h.rely D.I r, fun w h => h.live, fun w x st h hw => h.grp D.I rfl ⟨_, _, hw.setSt x⟩⟩, fun w => dcRead w fun e he => ?_, fun w x st sm h hw => h.grp D.I rfl ⟨_, _, hw.setSm x⟩⟩
  · rw [Array.mem_singleton] at he
    subst he
    exact evM_job _ (.inl rfl)
  · rw [Array.mem_singleton] at he
    subst he
    exact evM_job _ (.inr rfl)
end
end Go.Proofs.Ytlpfogkfjjbklac.Lift
namespace Go.Proofs.Ytlpfogkfjjbklac.Lift
open Go.Conc Go.Proofs.Ytlpfogkfjjbklac.Crew Go.RowKit
open Go.Proofs.Ytlpfogkfjjbklac.Wgs (cf gAdd gWait goes_nxs nxs didL askL Hires Awaits HeadW AnchW add_goes wait_goes)
open Go.ConcR (KK WgAt stA smA)
set_option linter.unusedVariables false
section
variable {J : Job} {H : Hdr} {w0 : World} {g : Int → Int → Int} {ab ao bb bo : Nat} {xs ys : Nat → Int} {cs : List Frame}
theorem goR {c : Code} {Q : Exit → Act → World → Prop} {n m j : Nat} {tm : Array Value} {k : List Item} {Stop : Goroutine → World → Prop} {w : World} (h : c.wpC Try.prog true J.RC (J.DC j) 16 n Q ⟨tm, []⟩ w)
    (hc : ∀ e a' w', Q e a' w' → e = .normal ∧ Goes Try.prog true J.RC (J.DC j) Stop m (G ((base 16).at a' k) cs) w') : Goes Try.prog true J.RC (J.DC j) Stop (m + n) (gAt tm (.code c :: k) cs) w :=
  wpC_goes h rfl (by simp [base]) fun e a' w' q => by
    obtain ⟨rfl, hg⟩ := hc e a' w' q
    exact hg
variable (J H w0 cs) in
def PtC : Array Value → Prop := fun tm => ∃ u, tm = TS H J.Wg (J.Wg + 1 + 2 * J.cnt) u
variable (J w0) in
def FLC : World → Prop := SF J w0 (J.Wg + 2 + 2 * J.cnt) (J.Wg + 1 + 2 * J.cnt) ((5 * J.cnt : Nat) : Int)
variable (J H w0 cs) in
def HDC : Goroutine → World → Prop := HeadW J.crew (PtC J H) tdW cs (FLC J w0)
variable (J H w0 cs) in
def ANC : Goroutine → World → Prop := AnchW (PtC J H) tdW cs (FLC J w0)
variable (J H w0 cs) in
def StopR : Nat → Goroutine → World → Prop
  | 0 => AtKd J.crew (HDC J H w0 cs)
  | r + 1 => AtDi J.crew (J.crew.last - (r + 1)) (Spawns J.crew (Waits J.crew (HDC J H w0 cs)) r)
theorem spawns_of {r m : Nat} {gr : Goroutine} {w : World} (h : Goes J.crew.P true J.crew.RC (J.crew.DC (J.crew.last - r)) (StopR J H w0 cs r) m gr w) : Spawns J.crew (Waits J.crew (HDC J H w0 cs)) r gr w := by
  cases r with
  | zero => exact ⟨m, h⟩
  | succ r => exact ⟨m, h⟩
variable (D : Dat J H w0 g ab ao bb bo xs ys)
include D
/-- From behind 'go' to the head of the loop. -/
theorem aft_goes {r i M : Nat} (hi : i + 1 ≤ J.cnt) (ih : ∀ u w, SF J w0 (J.Wg + 2 + 2 * (i + 1)) (J.Wg + 1 + 2 * (i + 1)) ((5 * (i + 1) : Nat) : Int) w → Goes Try.prog true J.RC (J.DC (J.old + (i + 1))) (StopR J H w0 cs r) M (gAt (TS H J.Wg (J.Wg + 1 + 2 * (i + 1)) u) hdT cs) w) :
    ∃ M', ∀ u w, SF J w0 (J.Wg + 3 + 2 * i) (J.Wg + 1 + 2 * i) ((5 * i : Nat) : Int) w → Goes Try.prog true J.RC (J.DC (J.old + (i + 1))) (StopR J H w0 cs r) M' (gAt (TS H J.Wg (J.Wg + 1 + 2 * i) u) (.inRegion ops10 [] :: .inBlock 1 :: .code rest2 :: lpT) cs) w := by
  have hI := D.I
  have hc := D.cnt
  have hn := hI.n
  have T := J.termsC (J.old + (i + 1))
  have ht : J.top (J.old + (i + 1)) = J.Wg + 3 + 2 * i := by unfold Job.top; omega
  obtain ⟨n1, r1⟩ := reg11 (J := J) (H := H) (w0 := w0) (sz := J.Wg + 3 + 2 * i) (fb := J.Wg + 1 + 2 * i) (fv := ((5 * i : Nat) : Int)) (j := J.old + (i + 1)) hI (by omega) (by omega)
  obtain ⟨n2, r2⟩ := reg12 (J := J) (H := H) (w0 := w0) (sz := J.Wg + 3 + 2 * i) (fb := J.Wg + 1 + 2 * i) (fv := ((5 * i : Nat) : Int)) (j := J.old + (i + 1)) hI (by omega) (by omega)
  obtain ⟨n3, r3⟩ := reg7 (J := J) (H := H) (w0 := w0) (sz := J.Wg + 3 + 2 * i + 1) (fb := J.Wg + 3 + 2 * i) (fv := ((5 * i : Nat) : Int)) (j := J.old + (i + 1)) hI (by omega) (by omega) (by omega) (by omega)
  refine ⟨M + 1 + n3 + n2 + n1 + 4, fun u w hF => ?_⟩
  refine goes_nxs (n := 4) T.trans T.idle (fun w => i8 _ _ w) ?_
  rw [e8]
  refine goR (r1 u w hF) fun e a' w' ⟨he, hT, h43, hF1⟩ => ⟨he, ?_⟩
  obtain ⟨u1, rfl⟩ := hT.form
  refine goR (r2 u1 w' h43 hF1) fun e a' w' ⟨he, hT, hF2⟩ => ⟨he, ?_⟩
  obtain ⟨u2, rfl⟩ := hT.form
  refine goR (r3 u2 w' hF2) fun e a' w' ⟨he, hT, hF3⟩ => ⟨he, ?_⟩
  obtain ⟨u3, rfl⟩ := hT.form
  refine goes_nxs (n := 1) (g := gAt (TS H J.Wg (J.Wg + 3 + 2 * i) u3) lpT cs) T.trans T.idle (fun w => i9 _ _ w) ?_
  rw [e9]
  have q1 : J.Wg + 3 + 2 * i = J.Wg + 1 + 2 * (i + 1) := by omega
  have q2 : J.Wg + 3 + 2 * i + 1 = J.Wg + 2 + 2 * (i + 1) := by omega
  have q3 : ((5 * i : Nat) : Int) + 5 = ((5 * (i + 1) : Nat) : Int) := by omega
  rw [q2, q1, q3] at hF3
  rw [q1]
  exact ih u3 w' hF3
theorem head_goes : ∀ r i, i + r = J.cnt → ∃ M, ∀ u w, SF J w0 (J.Wg + 2 + 2 * i) (J.Wg + 1 + 2 * i) ((5 * i : Nat) : Int) w → Goes Try.prog true J.RC (J.DC (J.old + i)) (StopR J H w0 cs r) M (gAt (TS H J.Wg (J.Wg + 1 + 2 * i) u) hdT cs) w := by
  have hI := D.I
  have hc := D.cnt
  have hn := hI.n
  have hP : J.crew.P = Try.prog := D.P
  have hm : J.crew.many ≤ 4 := by show J.cnt ≤ 4; omega
  intro r
  induction r with
  | zero =>
    intro i hi
    obtain rfl : i = J.cnt := by omega
    have T := J.termsC (J.old + J.cnt)
    have ht : J.top (J.old + J.cnt) = J.Wg + 1 + 2 * J.cnt := by unfold Job.top; omega
    obtain ⟨n1, r1⟩ := reg6 (J := J) (H := H) (w0 := w0) (sz := J.Wg + 2 + 2 * J.cnt) (fb := J.Wg + 1 + 2 * J.cnt) (fv := ((5 * J.cnt : Nat) : Int)) (j := J.old + J.cnt) hI (by omega) (by omega)
    refine ⟨0 + 3 + 4 + 1 + n1 + 2, fun u w hF => ?_⟩
    refine goes_nxs (n := 2) T.trans T.idle (fun w => i3 _ _ w) ?_
    rw [e3]
    refine goR (r1 u w hF) fun e a' w' ⟨he, hT, h33, hF1⟩ => ⟨he, ?_⟩
    obtain ⟨u1, rfl⟩ := hT.form
    have hf : decide (((5 * J.cnt : Nat) : Int) < (J.n : Int)) = false := by simp; omega
    rw [hf] at h33
    refine Goes.step rfl fun w₁ r₁ => ?_
    have h33' : (⟨TS H J.Wg (J.Wg + 1 + 2 * J.cnt) u1, []⟩ : Act).eval (.tmp 33) = .bool false := h33
    rw [stepG_cond (t := false) h33']
    refine ⟨T.idle _, ?_⟩
    refine goes_nxs (n := 4) (g := gAt (TS H J.Wg (J.Wg + 1 + 2 * J.cnt) u1) (.code (.exit 0) :: .code rest1 :: lpT) cs) T.trans T.idle (fun w => i6 _ _ _ _ _ w) ?_
    rw [e6]
    have hw := wait_goes hP (TS H J.Wg (J.Wg + 1 + 2 * J.cnt) u1) tdW cs (Pt := PtC J H) ⟨u1, rfl⟩ (D.awaits (J.Wg + 2 + 2 * J.cnt) (J.Wg + 1 + 2 * J.cnt) ((5 * J.cnt : Nat) : Int)) (hF1.rely hI r₁)
    rw [hP] at hw
    exact hw
  | succ r ih =>
    intro i hi
    have hlt : i < J.cnt := by omega
    obtain ⟨M1, h1⟩ := ih (i + 1) (by omega)
    obtain ⟨M2, h2⟩ := aft_goes D (r := r) (by omega) h1
    obtain ⟨N, hwk⟩ := D.worker (sz := J.Wg + 3 + 2 * i) hlt
    have T := J.termsC (J.old + i)
    have ht : J.top (J.old + i) = J.Wg + 1 + 2 * i := by unfold Job.top; omega
    obtain ⟨n1, r1⟩ := reg6 (J := J) (H := H) (w0 := w0) (sz := J.Wg + 2 + 2 * i) (fb := J.Wg + 1 + 2 * i) (fv := ((5 * i : Nat) : Int)) (j := J.old + i) hI (by omega) (by omega)
    obtain ⟨n2, r2⟩ := reg8 (J := J) (H := H) (w0 := w0) (sz := J.Wg + 2 + 2 * i) (fb := J.Wg + 1 + 2 * i) (fv := ((5 * i : Nat) : Int)) (j := J.old + i) hI (by omega) (by omega) (by omega) (5 * i) rfl (by omega)
    have hlast : J.crew.last - (r + 1) = J.old + i := by show J.old + J.cnt - (r + 1) = _; omega
    have hlast' : J.crew.last - r = J.old + (i + 1) := by show J.old + J.cnt - r = _; omega
    refine ⟨12 + 3 + n2 + 4 + 1 + n1 + 2, fun u w hF => ?_⟩
    refine goes_nxs (n := 2) T.trans T.idle (fun w => i3 _ _ w) ?_
    rw [e3]
    refine goR (r1 u w hF) fun e a' w' ⟨he, hT, h33, hF1⟩ => ⟨he, ?_⟩
    obtain ⟨u1, rfl⟩ := hT.form
    have hf : decide (((5 * i : Nat) : Int) < (J.n : Int)) = true := by simp; omega
    rw [hf] at h33
    refine Goes.step rfl fun w₁ r₁ => ?_
    have h33' : (⟨TS H J.Wg (J.Wg + 1 + 2 * i) u1, []⟩ : Act).eval (.tmp 33) = .bool true := h33
    rw [stepG_cond (t := true) h33']
    refine ⟨T.idle _, ?_⟩
    refine goes_nxs (n := 4) (g := gAt (TS H J.Wg (J.Wg + 1 + 2 * i) u1) (.code .skip :: .code rest1 :: lpT) cs) T.trans T.idle (fun w => i4 _ _ w) ?_
    rw [e4]
    refine goR (r2 u1 w₁ (hF1.rely hI r₁)) fun e a' w2 ⟨he, hT, h11, hF2⟩ => ⟨he, ?_⟩
    obtain ⟨u2, rfl⟩ := hT.form
    refine goes_nxs (n := 3) (g := gAt (TS H J.Wg (J.Wg + 1 + 2 * i) u2) (.code c910 :: .inBlock 1 :: .code rest2 :: lpT) cs) T.trans T.idle (fun w => i5 _ _ _ _ _ w) ?_
    rw [e5]
    have h11' : u2 11 = .pointer (some ⟨J.Wg + 2 + 2 * i, 0, none⟩) := h11
    have hadd := add_goes (C := J.crew) hP hm (TS H J.Wg (J.Wg + 1 + 2 * i) u2) tdA cs (j := J.old + i) (Next := Spawns J.crew (Waits J.crew (HDC J H w0 cs)) r) (D.hires (J.old + i) (J.Wg + 2 + 2 * i + 1) (J.Wg + 1 + 2 * i) (J.Wg + 2 + 2 * i) ((5 * i : Nat) : Int) ((min (5 * i + 5) J.n : Nat) : Int)) (M := 0 + 3) (fun w hF => by
      rw [hP, ts1 h11']
      refine goes_nxs (n := 3) T.trans T.idle (fun w => i7 _ _ _ _ _ _ w) ?_
      refine fun w₁ r₁ => ⟨r7 .., _, _, by rw [hP]; exact s7 .., ⟨N, ?_⟩, ?_⟩
      · have hs : J.Wg + 2 + 2 * i + 1 = J.Wg + 3 + 2 * i := by omega
        have hF' := hF.rely hI r₁
        rw [hs] at hF'
        exact hwk w₁ hF'
      · refine spawns_of (m := M2) ?_
        rw [hP, hlast']
        have hs : J.Wg + 2 + 2 * i + 1 = J.Wg + 3 + 2 * i := by omega
        have hF' := (hF.rely hI r₁).toSF
        rw [hs] at hF'
        exact h2 _ w₁ hF') hF2
    rw [hP] at hadd
    have e0 : StopR J H w0 cs (r + 1) = AtDi J.crew (J.old + i) (Spawns J.crew (Waits J.crew (HDC J H w0 cs)) r) := by
      show AtDi J.crew (J.crew.last - (r + 1)) _ = _
      rw [hlast]
    rw [e0]
    exact hadd
end
end Go.Proofs.Ytlpfogkfjjbklac.Lift
namespace Go.Proofs.Ytlpfogkfjjbklac.Lift
open Go.Conc Go.Proofs.Ytlpfogkfjjbklac.Crew Go.RowKit
open Go.Proofs.Ytlpfogkfjjbklac.Wgs (cf gAdd gWait goes_nxs nxs didL askL Hires Awaits HeadW AnchW add_goes wait_goes round_ head_run anch_run)
open Go.ConcR (KK WgAt wgBlock stA smA)
set_option linter.unusedVariables false
open Classical in
/-- The world with the shunned blocks empty. -/
noncomputable def empt (S : Nat → Prop) (w : World) : World := { w with heap := w.heap.mapIdx fun b o => if S b then (match o with | .cells _ t _ => .cells #[] t | o => o) else o }
theorem empt_size (S : Nat → Prop) (w : World) : (empt S w).heap.size = w.heap.size := by simp [empt]
theorem empt_same {S : Nat → Prop} {w : World} {b : Nat} (h : ¬ S b) : (empt S w).heap[b]? = w.heap[b]? := by
  simp only [empt, Array.getElem?_mapIdx, h, if_false]
  cases w.heap[b]? <;> rfl
theorem empt_gone {S : Nat → Prop} {w : World} {b : Nat} (h : S b) {c : Array Value} {t : TypeId} {fr : Nat × Nat} (hc : w.heap[b]? = some (.cells c t fr)) : (empt S w).heap[b]? = some (.cells #[] t) := by
  simp only [empt, Array.getElem?_mapIdx, h, if_true, hc, Option.map_some]
/-- What the ghost of the world is behind the wait. -/
structure Aft (Wg Ob n : Nat) (oty : TypeId) (fx : Nat → Int) (v v' : World) : Prop where
  os : v'.os = v.os
  output : v'.output = v.output
  size : Wg ≤ v'.heap.size
  block : ∀ b, b < Wg → b ≠ Ob → v'.heap[b]? = v.heap[b]?
  out : ∃ cs, v'.heap[Ob]? = some (.cells cs oty (0, 0)) ∧ cs.size = n ∧ ∀ t, t < n → cs[t]? = some (.int .i64 (fx t))
/-- In the ghost, where the group is made. -/
structure Pre (Ob n B : Nat) (fx : Nat → Int) (H : Hdr) (g : Int → Int → Int) (ab ao bb bo : Nat) (xs ys : Nat → Int) (v : World) : Prop where
  le : B ≤ v.heap.size
  ob : ∃ cs, v.heap[Ob]? = some (.cells cs 3 (0, 0)) ∧ cs.size = n
  opO : H.op ≠ Ob
  aO : H.a ≠ Ob
  bO : H.b ≠ Ob
  ouO : H.ou ≠ Ob
  cop : v.cell? ⟨H.op, 0, none⟩ = some (.func (.func H.f) #[] #[])
  ca : v.cell? ⟨H.a, 0, none⟩ = some (.slice H.pa n H.ca)
  cb : v.cell? ⟨H.b, 0, none⟩ = some (.slice H.pb n H.cb)
  cou : v.cell? ⟨H.ou, 0, none⟩ = some (.slice (some ⟨Ob, 0, none⟩) n n)
  le20 : n ≤ 20
  isOp : IsOp H.f g
  pa : 0 < n → H.pa = some ⟨ab, ao, none⟩
  pb : 0 < n → H.pb = some ⟨bb, bo, none⟩
  aN : 0 < n → ab ≠ Ob
  bN : 0 < n → bb ≠ Ob
  xa : ∀ t, t < n → v.cell? ⟨ab, ao + t, none⟩ = some (.int .i64 (xs t))
  yb : ∀ t, t < n → v.cell? ⟨bb, bo + t, none⟩ = some (.int .i64 (ys t))
  okX : ∀ t, t < n → Fp.ok (xs t) = true
  okY : ∀ t, t < n → Fp.ok (ys t) = true
  isFx : ∀ t, t < n → fx t = g (xs t) (ys t)
  capa : n ≤ H.ca
  capb : n ≤ H.cb
/-- A cell that the ghost has lies in no shunned block, and is there. -/
theorem sim_cell {S : Nat → Prop} {v w : World} (h : Sim S v w) {ad : Addr} (hn : ad.spot = none) {x : Value} (hc : v.cell? ad = some x) : ¬ S ad.block ∧ w.cell? ad = some x ∧ ad.block < w.heap.size := by
  obtain ⟨b, off, sp⟩ := ad
  simp only at hn
  subst hn
  have hS : ¬ S b := fun hs => by
    obtain ⟨t, c, h1, _⟩ := h.gone b hs
    simp [World.cell?, h1] at hc
  refine ⟨hS, by rw [World.cell?_of_block (w := v) (h.same b hS).symm]; exact hc, ?_⟩
  have := cell_lt hc
  rw [h.size] at this
  exact this
def T4 (H : Hdr) (u : Nat → Value) : Array Value := #[u 0, u 1, u 2, .pointer (some ⟨H.op, 0, none⟩), .pointer (some ⟨H.a, 0, none⟩), .pointer (some ⟨H.b, 0, none⟩), u 6, u 7, .pointer (some ⟨H.ou, 0, none⟩), u 9, u 10, u 11, u 12, u 13, u 14, u 15, u 16, u 17, u 18, u 19, u 20, u 21, u 22, u 23, u 24, u 25, u 26, u 27, u 28, u 29, u 30, u 31, u 32, u 33, u 34, u 35, u 36, u 37, u 38, u 39, u 40, u 41, u 42, u 43, u 44, u 45]
section
variable {Ob n B : Nat} {fx : Nat → Int} {H : Hdr} {g : Int → Int → Int} {ab ao bb bo : Nat} {xs ys : Nat → Int} {v : World}
noncomputable def jobOf (Wg Ob n L : Nat) (fx : Nat → Int) (S : Nat → Prop) : Job := { P := Try.prog, ty := 64, oty := 3, Wg := Wg, Ob := Ob, old := L, n := n, cnt := (n + 4) / 5, fx := fx, S := S }
theorem Pre.dat (h : Pre Ob n B fx H g ab ao bb bo xs ys v) {S : Nat → Prop} {w : World} (L : Nat) (hS : Sim S (Lift.re v w.tape w.drawn) w) : Dat (jobOf w.heap.size Ob n L fx S) H w g ab ao bb bo xs ys := by
  obtain ⟨cs, o1, o2⟩ := h.ob
  have hob : Ob < w.heap.size := by
    have : Ob < v.heap.size := (Array.getElem?_eq_some_iff.1 o1).1
    have := hS.size
    simp only [re_heap] at this
    omega
  obtain ⟨s1, s2, s3⟩ := sim_cell hS (ad := ⟨H.op, 0, none⟩) rfl h.cop
  obtain ⟨t1, t2, t3⟩ := sim_cell hS (ad := ⟨H.a, 0, none⟩) rfl h.ca
  obtain ⟨u1, u2, u3⟩ := sim_cell hS (ad := ⟨H.b, 0, none⟩) rfl h.cb
  obtain ⟨q1, q2, q3⟩ := sim_cell hS (ad := ⟨H.ou, 0, none⟩) rfl h.cou
  refine ⟨⟨⟨hob, fun hn hs => ?_⟩, rfl, s3, t3, u3, q3, h.opO, h.aO, h.bO, h.ouO, s1, t1, u1, q1, s2, t2, u2, q2, h.le20, fun b hb hs => ?_⟩, rfl, rfl, h.isOp, h.pa, h.pb, fun hn => ?_, fun hn => ?_, fun t ht => (sim_cell hS (ad := ⟨ab, ao + t, none⟩) rfl (h.xa t ht)).2.1, fun t ht => (sim_cell hS (ad := ⟨bb, bo + t, none⟩) rfl (h.yb t ht)).2.1, h.okX, h.okY, h.isFx, h.capa, h.capb, fun hn => ⟨cs, (hS.same Ob (fun hs => ?_)).symm.trans o1, o2⟩⟩
  · obtain ⟨t, c, h1, _⟩ := hS.gone Ob hs
    simp only [re_heap] at h1
    rw [o1] at h1
    injection h1 with h1
    injection h1 with h1 _ _
    subst h1
    have hn' : 0 < n := hn
    simp at o2
    omega
  · obtain ⟨t, c, _, h2⟩ := hS.gone b hs
    have := (Array.getElem?_eq_some_iff.1 h2).1
    have hb' : w.heap.size ≤ b := hb
    omega
  · obtain ⟨z1, z2, z3⟩ := sim_cell hS (ad := ⟨ab, ao + 0, none⟩) rfl (h.xa 0 hn)
    exact ⟨z3, h.aN hn, z1⟩
  · obtain ⟨z1, z2, z3⟩ := sim_cell hS (ad := ⟨bb, bo + 0, none⟩) rfl (h.yb 0 hn)
    exact ⟨z3, h.bN hn, z1⟩
  · obtain ⟨t, c, h1, _⟩ := hS.gone Ob hs
    simp only [re_heap] at h1
    rw [o1] at h1
    injection h1 with h1
    injection h1 with h1 _ _
    subst h1
    have hn' : 0 < n := hn
    simp at o2
    omega
end
end Go.Proofs.Ytlpfogkfjjbklac.Lift
namespace Go.Proofs.Ytlpfogkfjjbklac.Lift
open Go.Conc Go.Proofs.Ytlpfogkfjjbklac.Crew Go.RowKit
open Go.Proofs.Ytlpfogkfjjbklac.Wgs (cf gAdd gWait goes_nxs nxs didL askL Hires Awaits HeadW AnchW add_goes wait_goes round_ head_run anch_run)
open Go.ConcR (KK WgAt wgBlock stA smA)
set_option linter.unusedVariables false
section
variable {Ob n B : Nat} {fx : Nat → Int} {H : Hdr} {g : Int → Int → Int} {ab ao bb bo : Nat} {xs ys : Nat → Int} {v : World} {cs : List Frame}
theorem alloc_step (u : Nat → Value) (w : World) : stepG Try.prog true (gAt (T4 H u) [.inRegion ops4 [0], .code aft4] cs) w = .go (gAt (TS0 H w.heap.size u) [.inRegion ops4 [], .code aft4] cs) { w with heap := w.heap.push (wgBlock 64 0 0) } #[] := by kernel_rfl
theorem push_old {w : World} {o : Obj} {b : Nat} (h : b < w.heap.size) : ({ w with heap := w.heap.push o } : World).heap[b]? = w.heap[b]? := by
  show (w.heap.push o)[b]? = _
  rw [Array.getElem?_push, if_neg (by omega)]
theorem push_new {w : World} {o : Obj} : ({ w with heap := w.heap.push o } : World).heap[w.heap.size]? = some o := by
  show (w.heap.push o)[w.heap.size]? = _
  simp
theorem start_spawns {S : Nat → Prop} {L : Nat} {w : World} (D : Dat (jobOf w.heap.size Ob n L fx S) H w g ab ao bb bo xs ys) (u : Nat → Value) :
    Spawns (jobOf w.heap.size Ob n L fx S).crew (Waits (jobOf w.heap.size Ob n L fx S).crew (HDC (jobOf w.heap.size Ob n L fx S) H w cs)) ((n + 4) / 5) (gAt (TS0 H w.heap.size u) [.inRegion ops4 [], .code aft4] cs) { w with heap := w.heap.push (wgBlock 64 0 0) } := by
  generalize hJ : jobOf w.heap.size Ob n L fx S = J at D
  have eW : J.Wg = w.heap.size := by rw [← hJ]; rfl
  have eo : J.old = L := by rw [← hJ]; rfl
  have ec : J.cnt = (n + 4) / 5 := by rw [← hJ]; rfl
  have et : J.ty = 64 := by rw [← hJ]; rfl
  have hP : J.crew.P = Try.prog := D.P
  have T := J.termsC J.old
  obtain ⟨M, hh⟩ := head_goes (cs := cs) D J.cnt 0 (by omega)
  obtain ⟨n5, r5⟩ := reg5 (J := J) (H := H) (w0 := w) (sz := J.Wg + 1) (j := J.old) D.I (by unfold Job.top; omega) (by omega)
  rw [← ec, ← eW]
  refine spawns_of (m := M + 2 + n5 + 3) ?_
  have hl : J.crew.last - J.cnt = J.old := by show J.old + J.cnt - J.cnt = _; omega
  rw [hP, hl]
  have hS0 : S0 J w (J.Wg + 1) { w with heap := w.heap.push (wgBlock 64 0 0) } := by
    refine ⟨⟨rfl, rfl, rfl, ⟨0, 0, ?_⟩, fun b h1 h2 => push_old (by omega), fun c hc => ⟨c, ?_, rfl⟩⟩, by simp [eW], by omega⟩
    · show _ = _
      rw [eW, et]
      exact push_new
    · have := D.I.fit.ob
      rw [push_old (by omega)]
      exact hc
  refine goes_nxs (n := 3) T.trans T.idle (fun w => i1 _ _ w) ?_
  rw [e1]
  refine goR (r5 u _ hS0) fun e a' w' ⟨he, hT, hF⟩ => ⟨he, ?_⟩
  obtain ⟨u1, rfl⟩ := hT.form
  refine goes_nxs (n := 2) (g := gAt (TS H J.Wg (J.Wg + 1) u1) [.code (.block 0 (.loop lbC)), .code tlC] cs) T.trans T.idle (fun w => i2 _ _ w) ?_
  rw [e2]
  exact hh u1 w' hF
/-- The ghost behind the wait. -/
theorem ghost_aft {S : Nat → Prop} {L : Nat} {w w' : World} (h : Pre Ob n B fx H g ab ao bb bo xs ys v) (hS : Sim S (Lift.re v w.tape w.drawn) w) (hF : FLC (jobOf w.heap.size Ob n L fx S) w w')
    (hfin : ∀ i, L ≤ i → i < L + (n + 4) / 5 → ∀ t, (jobOf w.heap.size Ob n L fx S).M (i + 1) t → w'.cell? ⟨Ob, t, none⟩ = some (.int .i64 (fx t))) :
    Sim (fun b => S b ∨ b = w.heap.size) (Lift.re (empt (fun b => S b ∨ b = w.heap.size) w') w'.tape w'.drawn) w' ∧ Aft v.heap.size Ob n 3 fx v (empt (fun b => S b ∨ b = w.heap.size) w') := by
  have D := h.dat L hS
  have hsz : v.heap.size = w.heap.size := hS.size
  obtain ⟨cs0, o1, o2⟩ := h.ob
  have hob : Ob < w.heap.size := D.I.fit.ob
  have hblk : ∀ b, b < w.heap.size → b ≠ Ob → w'.heap[b]? = w.heap[b]? := hF.block
  have hlow : ∀ b, S b → b < w.heap.size := fun b hb => by
    obtain ⟨t, c, _, h2⟩ := hS.gone b hb
    exact (Array.getElem?_eq_some_iff.1 h2).1
  have hshp : ∀ cs, w.heap[Ob]? = some (.cells cs 3 (0, 0)) → ∃ cs', w'.heap[Ob]? = some (.cells cs' 3 (0, 0)) ∧ cs'.size = cs.size := hF.out
  have hsame : ∀ b, ¬ S b → v.heap[b]? = w.heap[b]? := hS.same
  have hgone : ∀ b, S b → ∃ t c, v.heap[b]? = some (.cells #[] t) ∧ w.heap[b]? = some (.cells c t) := hS.gone
  -- shunned blocks in the new world
  have hnew : ∀ b, S b → ∃ t c, v.heap[b]? = some (.cells #[] t) ∧ w'.heap[b]? = some (.cells c t) := fun b hb => by
    obtain ⟨t, c, h1, h2⟩ := hgone b hb
    by_cases e : b = Ob
    · subst e
      rw [o1] at h1
      injection h1 with h1
      injection h1 with h1 h3 _
      subst h3
      obtain ⟨c', h4, _⟩ := hshp c h2
      exact ⟨_, c', by rw [o1, h1], h4⟩
    · exact ⟨t, c, h1, (hblk b (hlow b hb) e).trans h2⟩
  refine ⟨⟨empt_size _ _, fun b hb => empt_same hb, fun b hb => ?_, rfl, rfl, rfl, rfl⟩, ⟨hF.os.trans hS.os.symm, hF.output.trans hS.output.symm, ?_, fun b h1 h2 => ?_, ?_⟩⟩
  · rcases hb with hb | rfl
    · obtain ⟨t, c, _, h2⟩ := hnew b hb
      exact ⟨t, c, empt_gone (.inl hb) h2, h2⟩
    · obtain ⟨st, sm, hl⟩ := hF.live
      exact ⟨_, _, empt_gone (.inr rfl) hl, hl⟩
  · rw [empt_size, hF.size, hsz]
    show w.heap.size ≤ w.heap.size + 2 + 2 * ((n + 4) / 5)
    omega
  · by_cases hs : S b
    · obtain ⟨t, c, h3, h4⟩ := hnew b hs
      rw [empt_gone (.inl hs) h4, h3]
    · rw [empt_same (fun hx => hx.elim hs (by omega)), hblk b (by omega) h2, ← hsame b hs]
  · by_cases hs : S Ob
    · obtain ⟨t, c, h3, h4⟩ := hnew Ob hs
      rw [o1] at h3
      injection h3 with h3
      injection h3 with h3 h5 _
      subst h3 h5
      refine ⟨#[], empt_gone (.inl hs) h4, o2, fun t ht => ?_⟩
      simp at o2
      omega
    · obtain ⟨cs', h4, h5⟩ := hshp cs0 ((hsame Ob hs).symm.trans o1)
      refine ⟨cs', by rw [empt_same (fun hx => hx.elim hs (by omega))]; exact h4, h5.trans o2, fun t ht => ?_⟩
      have := hfin (L + t / 5) (by omega) (by omega) t (by
        show L < L + t / 5 + 1 ∧ 5 * (L + t / 5 + 1 - L - 1) ≤ t ∧ t < 5 * (L + t / 5 + 1 - L - 1) + 5 ∧ t < n
        omega)
      simpa [World.cell?, h4] using this
theorem mid (h : Pre Ob n B fx H g ab ao bb bo xs ys v) {Q : Goroutine → World → Prop} (u : Nat → Value)
    (hk : ∀ v' u', Aft v.heap.size Ob n 3 fx v v' → K Try.prog B (G ((cf (TS H v.heap.size (v.heap.size + 1 + 2 * ((n + 4) / 5)) u') tdW).finish (.tuple #[])) cs) v' Q) :
    K Try.prog B (gAt (T4 H u) [.inRegion ops4 [0], .code aft4] cs) v Q := by
  refine K.crew (o := wgBlock 64 0 0) (a' := gAt (TS0 H v.heap.size u) [.inRegion ops4 [], .code aft4] cs) (fun S w hS => ?_) rfl (fun w hw => ?_) (fun S L w hSB hS => ⟨?_⟩)
  · have : v.heap.size = w.heap.size := hS.size
    have := h.le
    omega
  · rw [hw]
    exact alloc_step u w
  have hsz : v.heap.size = w.heap.size := hS.size
  have D := h.dat L hS
  have hm : (n + 4) / 5 ≤ 4 := by have := h.le20; omega
  have hok := Job.ok D.I.fit
  refine { C := (jobOf w.heap.size Ob n L fx S).crew, Head := HDC (jobOf w.heap.size Ob n L fx S) H w cs, Anch := ANC (jobOf w.heap.size Ob n L fx S) H w cs, prog := rfl, old := rfl, wg := rfl, bound := ?_, ok := hok, head := head_run, anch := anch_run, anchAt := ?_, round := ?_, sh := fun l => Iff.rfl, own := ?_, rd := ?_, zero := ?_, spawns := ?_, goon := ?_ }
  · show w.heap.size ≤ w.heap.size + 2 + 2 * ((n + 4) / 5); omega
  · rintro g w d ⟨h1, h2⟩
    exact ⟨h1, SF.rely D.I h2 ⟨rfl, rfl, rfl, rfl, id, fun _ _ _ => rfl, fun c hc => ⟨c, hc, rfl⟩⟩⟩
  · intro g w hg
    exact round_ (C := (jobOf _ Ob n L fx S).crew) D.P hm tdW cs (D.awaits _ _ _) hg
  · rintro k l ⟨i, _, hM⟩
    exact hM.1
  · rintro k l ⟨a, _, h1, _⟩
    exact h1
  · exact push_new
  · have hs := start_spawns (cs := cs) D u
    have e : (jobOf w.heap.size Ob n L fx S).crew.last - (jobOf w.heap.size Ob n L fx S).crew.old = (n + 4) / 5 := by
      show L + (n + 4) / 5 - L = _; omega
    rw [e, hsz]
    exact hs
  · rintro a' w' ⟨⟨tm, ⟨u', rfl⟩, rfl⟩, hF⟩ hfin
    obtain ⟨g1, g2⟩ := ghost_aft h hS hF (fun i h1 h2 t ht => hfin i h1 h2 t ht)
    refine ⟨by rw [hF.size]; exact Nat.le_refl _, _, g1, ?_⟩
    have := hk _ u' g2
    rw [hsz] at this
    exact this
end
end Go.Proofs.Ytlpfogkfjjbklac.Lift
