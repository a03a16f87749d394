/-
  From the making of the group to behind the wait.
-/
import Derived.Test.YtadngncbbbbapaaStare
import Derived.Test.YtadngncbbbbapaaBase
namespace Go.Proofs.Ytadngncbbbbapaa.Lift
open Go.Conc Go.Proofs.Ytadngncbbbbapaa.Crew Go.RowKit
open Go.Proofs.Ytadngncbbbbapaa.Wgs (cf gAdd gWait goes_nxs nxs didL askL Hires Awaits HeadW AnchW add_goes wait_goes round_ head_run anch_run)
open Go.ConcR (KK WgAt wgBlock stA smA)
set_option linter.unusedVariables false
open Classical in
/-- The world with the shunned blocks empty. -/
noncomputable def empt (S : Nat → Prop) (w : World) : World := { w with heap := w.heap.mapIdx fun b o => if S b then (match o with | .cells _ t _ => .cells #[] t | o => o) else o }
theorem empt_size (S : Nat → Prop) (w : World) : (empt S w).heap.size = w.heap.size := by simp [empt]
theorem empt_same {S : Nat → Prop} {w : World} {b : Nat} (h : ¬ S b) : (empt S w).heap[b]? = w.heap[b]? := by
  simp only [empt, Array.getElem?_mapIdx, h, if_false]
  cases w.heap[b]? <;> rfl
theorem empt_gone {S : Nat → Prop} {w : World} {b : Nat} (h : S b) {c : Array Value} {t : TypeId} {fr : Nat × Nat} (hc : w.heap[b]? = some (.cells c t fr)) : (empt S w).heap[b]? = some (.cells #[] t) := by
  simp only [empt, Array.getElem?_mapIdx, h, if_true, hc, Option.map_some]
/-- What the ghost of the world is behind the wait. -/
structure Aft (Wg Ob n : Nat) (oty : TypeId) (fx : Nat → Int) (v v' : World) : Prop where
  os : v'.os = v.os
  output : v'.output = v.output
  size : Wg ≤ v'.heap.size
  block : ∀ b, b < Wg → b ≠ Ob → v'.heap[b]? = v.heap[b]?
  out : ∃ cs, v'.heap[Ob]? = some (.cells cs oty (0, 0)) ∧ cs.size = n ∧ ∀ t, t < n → cs[t]? = some (.int .i64 (fx t))
/-- In the ghost, where the group is made. -/
structure Pre (Ob n B : Nat) (fx : Nat → Int) (H : Hdr) (g : Int → Int → Int) (ab ao bb bo : Nat) (xs ys : Nat → Int) (v : World) : Prop where
  le : B ≤ v.heap.size
  ob : ∃ cs, v.heap[Ob]? = some (.cells cs 3 (0, 0)) ∧ cs.size = n
  opO : H.op ≠ Ob
  aO : H.a ≠ Ob
  bO : H.b ≠ Ob
  ouO : H.ou ≠ Ob
  cop : v.cell? ⟨H.op, 0, none⟩ = some (.func (.func H.f) #[] #[])
  ca : v.cell? ⟨H.a, 0, none⟩ = some (.slice H.pa n H.ca)
  cb : v.cell? ⟨H.b, 0, none⟩ = some (.slice H.pb n H.cb)
  cou : v.cell? ⟨H.ou, 0, none⟩ = some (.slice (some ⟨Ob, 0, none⟩) n n)
  le20 : n ≤ 20
  isOp : IsOp H.f g
  pa : 0 < n → H.pa = some ⟨ab, ao, none⟩
  pb : 0 < n → H.pb = some ⟨bb, bo, none⟩
  aN : 0 < n → ab ≠ Ob
  bN : 0 < n → bb ≠ Ob
  xa : ∀ t, t < n → v.cell? ⟨ab, ao + t, none⟩ = some (.int .i64 (xs t))
  yb : ∀ t, t < n → v.cell? ⟨bb, bo + t, none⟩ = some (.int .i64 (ys t))
  okX : ∀ t, t < n → Fp.ok (xs t) = true
  okY : ∀ t, t < n → Fp.ok (ys t) = true
  isFx : ∀ t, t < n → fx t = g (xs t) (ys t)
  capa : n ≤ H.ca
  capb : n ≤ H.cb
/-- A cell that the ghost has lies in no shunned block, and is there. -/
theorem sim_cell {S : Nat → Prop} {v w : World} (h : Sim S v w) {ad : Addr} (hn : ad.spot = none) {x : Value} (hc : v.cell? ad = some x) : ¬ S ad.block ∧ w.cell? ad = some x ∧ ad.block < w.heap.size := by
  obtain ⟨b, off, sp⟩ := ad
  simp only at hn
  subst hn
  have hS : ¬ S b := fun hs => by
    obtain ⟨t, c, h1, _⟩ := h.gone b hs
    simp [World.cell?, h1] at hc
  refine ⟨hS, by rw [World.cell?_of_block (w := v) (h.same b hS).symm]; exact hc, ?_⟩
  have := cell_lt hc
  rw [h.size] at this
  exact this
def T4 (H : Hdr) (u : Nat → Value) : Array Value := #[u 0, u 1, u 2, .pointer (some ⟨H.op, 0, none⟩), .pointer (some ⟨H.a, 0, none⟩), .pointer (some ⟨H.b, 0, none⟩), u 6, u 7, .pointer (some ⟨H.ou, 0, none⟩), u 9, u 10, u 11, u 12, u 13, u 14, u 15, u 16, u 17, u 18, u 19, u 20, u 21, u 22, u 23, u 24, u 25, u 26, u 27, u 28, u 29, u 30, u 31, u 32, u 33, u 34, u 35, u 36, u 37, u 38, u 39, u 40, u 41, u 42, u 43, u 44, u 45]
section
variable {Ob n B : Nat} {fx : Nat → Int} {H : Hdr} {g : Int → Int → Int} {ab ao bb bo : Nat} {xs ys : Nat → Int} {v : World}
noncomputable def jobOf (Wg Ob n L : Nat) (fx : Nat → Int) (S : Nat → Prop) : Job := { P := Try.prog, ty := 67, oty := 3, Wg := Wg, Ob := Ob, old := L, n := n, cnt := (n + 4) / 5, fx := fx, S := S }
theorem Pre.dat (h : Pre Ob n B fx H g ab ao bb bo xs ys v) {S : Nat → Prop} {w : World} (L : Nat) (hS : Sim S (Lift.re v w.tape w.drawn) w) : Dat (jobOf w.heap.size Ob n L fx S) H w g ab ao bb bo xs ys := by
  obtain ⟨cs, o1, o2⟩ := h.ob
  have hob : Ob < w.heap.size := by
    have : Ob < v.heap.size := (Array.getElem?_eq_some_iff.1 o1).1
    have := hS.size
    simp only [re_heap] at this
    omega
  obtain ⟨s1, s2, s3⟩ := sim_cell hS (ad := ⟨H.op, 0, none⟩) rfl h.cop
  obtain ⟨t1, t2, t3⟩ := sim_cell hS (ad := ⟨H.a, 0, none⟩) rfl h.ca
  obtain ⟨u1, u2, u3⟩ := sim_cell hS (ad := ⟨H.b, 0, none⟩) rfl h.cb
  obtain ⟨q1, q2, q3⟩ := sim_cell hS (ad := ⟨H.ou, 0, none⟩) rfl h.cou
  refine ⟨⟨⟨hob, fun hn hs => ?_⟩, rfl, s3, t3, u3, q3, h.opO, h.aO, h.bO, h.ouO, s1, t1, u1, q1, s2, t2, u2, q2, h.le20, fun b hb hs => ?_⟩, rfl, rfl, h.isOp, h.pa, h.pb, fun hn => ?_, fun hn => ?_, fun t ht => (sim_cell hS (ad := ⟨ab, ao + t, none⟩) rfl (h.xa t ht)).2.1, fun t ht => (sim_cell hS (ad := ⟨bb, bo + t, none⟩) rfl (h.yb t ht)).2.1, h.okX, h.okY, h.isFx, h.capa, h.capb, fun hn => ⟨cs, (hS.same Ob (fun hs => ?_)).symm.trans o1, o2⟩⟩
  · obtain ⟨t, c, h1, _⟩ := hS.gone Ob hs
    simp only [re_heap] at h1
    rw [o1] at h1
    injection h1 with h1
    injection h1 with h1 _ _
    subst h1
    have hn' : 0 < n := hn
    simp at o2
    omega
  · obtain ⟨t, c, _, h2⟩ := hS.gone b hs
    have := (Array.getElem?_eq_some_iff.1 h2).1
    have hb' : w.heap.size ≤ b := hb
    omega
  · obtain ⟨z1, z2, z3⟩ := sim_cell hS (ad := ⟨ab, ao + 0, none⟩) rfl (h.xa 0 hn)
    exact ⟨z3, h.aN hn, z1⟩
  · obtain ⟨z1, z2, z3⟩ := sim_cell hS (ad := ⟨bb, bo + 0, none⟩) rfl (h.yb 0 hn)
    exact ⟨z3, h.bN hn, z1⟩
  · obtain ⟨t, c, h1, _⟩ := hS.gone Ob hs
    simp only [re_heap] at h1
    rw [o1] at h1
    injection h1 with h1
    injection h1 with h1 _ _
    subst h1
    have hn' : 0 < n := hn
    simp at o2
    omega
end
end Go.Proofs.Ytadngncbbbbapaa.Lift
