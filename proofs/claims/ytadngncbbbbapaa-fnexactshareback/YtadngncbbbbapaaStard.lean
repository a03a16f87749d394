/-
  The starter: all workers are started, and waited for.
-/
import Derived.Test.YtadngncbbbbapaaStarc
namespace Go.Proofs.Ytadngncbbbbapaa.Lift
open Go.Conc Go.Proofs.Ytadngncbbbbapaa.Crew Go.RowKit
open Go.Proofs.Ytadngncbbbbapaa.Wgs (cf gAdd gWait goes_nxs nxs didL askL Hires Awaits HeadW AnchW add_goes wait_goes)
open Go.ConcR (KK WgAt stA smA)
set_option linter.unusedVariables false
/-- What is in a and b, and what is to be made of them. -/
structure Dat (J : Job) (H : Hdr) (w0 : World) (g : Int → Int → Int) (ab ao bb bo : Nat) (xs ys : Nat → Int) : Prop where
  I : H.In J w0
  P : J.P = Try.prog
  cnt : J.cnt = (J.n + 4) / 5
  isOp : IsOp H.f g
  pa : 0 < J.n → H.pa = some ⟨ab, ao, none⟩
  pb : 0 < J.n → H.pb = some ⟨bb, bo, none⟩
  aL : 0 < J.n → ab < J.Wg ∧ ab ≠ J.Ob ∧ ¬ J.S ab
  bL : 0 < J.n → bb < J.Wg ∧ bb ≠ J.Ob ∧ ¬ J.S bb
  xa : ∀ t, t < J.n → w0.cell? ⟨ab, ao + t, none⟩ = some (.int .i64 (xs t))
  yb : ∀ t, t < J.n → w0.cell? ⟨bb, bo + t, none⟩ = some (.int .i64 (ys t))
  okX : ∀ t, t < J.n → Fp.ok (xs t) = true
  okY : ∀ t, t < J.n → Fp.ok (ys t) = true
  fx : ∀ t, t < J.n → J.fx t = g (xs t) (ys t)
  ca : J.n ≤ H.ca
  cb : J.n ≤ H.cb
  ob : 0 < J.n → ∃ cs, w0.heap[J.Ob]? = some (.cells cs J.oty (0, 0)) ∧ cs.size = J.n
section
variable {J : Job} {H : Hdr} {w0 : World} {g : Int → Int → Int} {ab ao bb bo : Nat} {xs ys : Nat → Int} (D : Dat J H w0 g ab ao bb bo xs ys)
def strI (J : Job) (ab ao bb bo : Nat) (xs ys : Nat → Int) (i : Nat) : Str := { ab := ab, ao := ao + 5 * i, bb := bb, bo := bo + 5 * i, lo := 5 * i, m := min (5 * i + 5) J.n - 5 * i, X := fun t => xs (5 * i + t), Y := fun t => ys (5 * i + t) }
def bxsI (J : Job) (H : Hdr) (ao bo i : Nat) : Bxs := { ou := H.ou, fr := J.Wg + 1 + 2 * i, to := J.Wg + 2 + 2 * i, op := H.op, a := H.a, b := H.b, ao := ao, bo := bo, ca := H.ca, cb := H.cb }
include D
theorem Dat.bxs {i : Nat} (hi : i < J.cnt) : (bxsI J H ao bo i).Fits J (J.old + i + 1) (strI J ab ao bb bo xs ys i) := by
  have hc := D.cnt
  have hn : 5 * i < J.n := by omega
  have hI := D.I
  have ht : J.top (J.old + i + 1) = J.Wg + 3 + 2 * i := by unfold Job.top; omega
  obtain ⟨a1, a2, a3⟩ := D.aL (by omega)
  obtain ⟨b1, b2, b3⟩ := D.bL (by omega)
  have hob := hI.fit.ob
  refine ⟨⟨hI.fit, by omega, by omega, by show ab ≠ _; omega, a2, a3, by rw [ht]; show ab < _; omega, by show bb ≠ _; omega, b2, b3, by rw [ht]; show bb < _; omega, fun t h => ?_, fun t h => ?_, fun t h => ?_, ?_⟩, ?_, ?_, ?_, ?_, ?_, ?_, ?_, ?_, D.ca, D.cb, rfl, rfl, by have := hI.n; omega⟩
  · have h' : t < min (5 * i + 5) J.n - 5 * i := h
    show J.old < J.old + i + 1 ∧ 5 * (J.old + i + 1 - J.old - 1) ≤ 5 * i + t ∧ 5 * i + t < 5 * (J.old + i + 1 - J.old - 1) + 5 ∧ 5 * i + t < J.n
    omega
  · have h' : t < min (5 * i + 5) J.n - 5 * i := h
    exact D.okX _ (by omega)
  · have h' : t < min (5 * i + 5) J.n - 5 * i := h
    exact D.okY _ (by omega)
  · show min (5 * i + 5) J.n - 5 * i ≤ 100; omega
  · exact ⟨by have := hI.ouL; show H.ou ≠ _; omega, hI.ouO, hI.ouS, by rw [ht]; have := hI.ouL; show H.ou < _; omega⟩
  · exact ⟨by show J.Wg + 1 + 2 * i ≠ _; omega, by show J.Wg + 1 + 2 * i ≠ _; omega, hI.highS _ (by show J.Wg ≤ J.Wg + 1 + 2 * i; omega), by rw [ht]; show J.Wg + 1 + 2 * i < _; omega⟩
  · exact ⟨by show J.Wg + 2 + 2 * i ≠ _; omega, by show J.Wg + 2 + 2 * i ≠ _; omega, hI.highS _ (by show J.Wg ≤ J.Wg + 2 + 2 * i; omega), by rw [ht]; show J.Wg + 2 + 2 * i < _; omega⟩
  · exact ⟨by have := hI.opL; show H.op ≠ _; omega, hI.opO, hI.opS, by rw [ht]; have := hI.opL; show H.op < _; omega⟩
  · exact ⟨by have := hI.aL; show H.a ≠ _; omega, hI.aO, hI.aS, by rw [ht]; have := hI.aL; show H.a < _; omega⟩
  · exact ⟨by have := hI.bL; show H.b ≠ _; omega, hI.bO, hI.bS, by rw [ht]; have := hI.bL; show H.b < _; omega⟩
  · show 0 < min (5 * i + 5) J.n - 5 * i; omega
  · show 5 * i + (min (5 * i + 5) J.n - 5 * i) ≤ J.n; omega
theorem Dat.wk {i sz : Nat} {w : World} (hi : i < J.cnt) (h : SG J w0 sz (J.Wg + 1 + 2 * i) ((5 * i : Nat) : Int) (J.Wg + 2 + 2 * i) ((min (5 * i + 5) J.n : Nat) : Int) w) : WK J (J.old + i + 1) (strI J ab ao bb bo xs ys i) H.f (bxsI J H ao bo i) w := by
  have hc := D.cnt
  have hn : 5 * i < J.n := by omega
  have hI := D.I
  obtain ⟨a1, a2, a3⟩ := D.aL (by omega)
  obtain ⟨b1, b2, b3⟩ := D.bL (by omega)
  obtain ⟨c0, p1, p2⟩ := D.ob (by omega)
  obtain ⟨cs, o1, o2⟩ := h.out c0 p1
  refine ⟨⟨h.live, fun t ht => ?_, fun t ht => ?_, fun t ht => ?_, fun t h1 => by omega⟩, (h.toSB.low hI.ouL hI.ouO).trans hI.cou, h.fr.cell, ?_, (h.toSB.low hI.opL hI.opO).trans hI.cop, ?_, ?_⟩
  · have ht' : t < min (5 * i + 5) J.n - 5 * i := ht
    show w.cell? ⟨ab, ao + 5 * i + t, none⟩ = some (.int .i64 (xs (5 * i + t)))
    rw [World.cell?_of_block (w := w0) (h.block ab a1 a2), show ao + 5 * i + t = ao + (5 * i + t) by omega]
    exact D.xa _ (by omega)
  · have ht' : t < min (5 * i + 5) J.n - 5 * i := ht
    show w.cell? ⟨bb, bo + 5 * i + t, none⟩ = some (.int .i64 (ys (5 * i + t)))
    rw [World.cell?_of_block (w := w0) (h.block bb b1 b2), show bo + 5 * i + t = bo + (5 * i + t) by omega]
    exact D.yb _ (by omega)
  · have ht' : t < min (5 * i + 5) J.n - 5 * i := ht
    have hlt : 5 * i + t < cs.size := by omega
    exact ⟨⟨cs[5 * i + t], by show w.cell? ⟨J.Ob, 5 * i + t, none⟩ = _; simp [World.cell?, o1, hlt]⟩, by show w.frozen? ⟨J.Ob, 5 * i + t, none⟩ = _; simp [World.frozen?, o1]⟩
  · have := h.to.cell
    show w.cell? ⟨J.Wg + 2 + 2 * i, 0, none⟩ = some (.int .i64 ((5 * i + (min (5 * i + 5) J.n - 5 * i) : Nat) : Int))
    rw [show 5 * i + (min (5 * i + 5) J.n - 5 * i) = min (5 * i + 5) J.n by omega]
    exact this
  · show w.cell? ⟨H.a, 0, none⟩ = some (.slice (some ⟨ab, ao, none⟩) J.n H.ca)
    rw [h.toSB.low hI.aL hI.aO, hI.ca, D.pa (by omega)]
  · show w.cell? ⟨H.b, 0, none⟩ = some (.slice (some ⟨bb, bo, none⟩) J.n H.cb)
    rw [h.toSB.low hI.bL hI.bO, hI.cb, D.pb (by omega)]
theorem Dat.worker {i sz : Nat} (hi : i < J.cnt) : ∃ N, ∀ w, SG J w0 sz (J.Wg + 1 + 2 * i) ((5 * i : Nat) : Int) (J.Wg + 2 + 2 * i) ((min (5 * i + 5) J.n : Nat) : Int) w → Goes J.crew.P false (J.crew.RW (J.old + i + 1)) (J.crew.DW (J.old + i + 1)) (S7 J.crew (J.old + i + 1)) N (born Try.prog (dgo J.Wg H.ou (J.Wg + 1 + 2 * i) (J.Wg + 2 + 2 * i) H.op H.a H.b)) w := by
  have hc := D.cnt
  have hn := D.I.n
  have F := D.bxs hi
  obtain ⟨N, h⟩ := worker_goes D.P (by omega) F D.isOp (fun t ht => by
    have ht' : t < min (5 * i + 5) J.n - 5 * i := ht
    exact D.fx (5 * i + t) (by omega)) (fun t ht => by
    obtain ⟨h1, h2, h3, h4⟩ := ht
    exact ⟨t - 5 * i, by show t - 5 * i < min (5 * i + 5) J.n - 5 * i; omega, by show t = 5 * i + (t - 5 * i); omega⟩)
  exact ⟨N, fun w hw => h w (D.wk hi hw)⟩
theorem Dat.hires (j sz fb tb : Nat) (fv tv : Int) : Hires J.crew j (SG J w0 sz fb fv tb tv) := by
  have T := J.termsC j
  refine ⟨T.trans, fun w => (Job.ok D.I.fit).rcRefl w, T.idle, fun w => dcRead w fun e he => ?_, fun w w' r => r.live, fun w w' r h => h.rely D.I r, fun w h => h.live, fun w x st h hw => h.grp D.I rfl ⟨_, _, hw.setSt x⟩⟩
  rw [Array.mem_singleton] at he
  subst he
  exact evM_job _ (.inl rfl)
theorem Dat.awaits (sz fb : Nat) (fv : Int) : Awaits J.crew (SF J w0 sz fb fv) := by
  have T := J.termsC (J.old + J.cnt)
  refine ⟨⟨T.trans, fun w => (Job.ok D.I.fit).rcRefl w, T.idle, fun w => dcRead w fun e he => ?_, fun w w' r => r.live, fun w w' r h => h.rely D.I r, fun w h => h.live, fun w x st h hw => h.grp D.I rfl ⟨_, _, hw.setSt x⟩⟩, fun w => dcRead w fun e he => ?_, fun w x st sm h hw => h.grp D.I rfl ⟨_, _, hw.setSm x⟩⟩
  · rw [Array.mem_singleton] at he
    subst he
    exact evM_job _ (.inl rfl)
  · rw [Array.mem_singleton] at he
    subst he
    exact evM_job _ (.inr rfl)
end
end Go.Proofs.Ytadngncbbbbapaa.Lift
