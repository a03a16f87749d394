/-
  A worker's stretch: one round of fill, in company.
-/
import Derived.Test.YtadngncbbbbapaaWorka
import Derived.Test.YtadngncbbbbapaaJobs
import Derived.Conc.WgWords
namespace Go.Proofs.Ytadngncbbbbapaa.Lift
open Go.Conc Go.Proofs.Ytadngncbbbbapaa.Crew Go.RowKit
set_option linter.unusedVariables false
set_option linter.unusedSimpArgs false
/-! ### one operation of a region -/
section
variable {P : Program} {main : Bool} {R : World → World → Prop} {D : World → World → Array Event → Prop} {fn : FuncId} {ops : Array Oper} {Q : Exit → Act → World → Prop} {a : Act} {w : World}
theorem Came.put0 {val : Nat → Value} {a₀ a : Act} {L : Array Bool} (h : Came ops val a₀ L a) {i : Nat} (hr : i ∈ Region.ready .any ops L) {o : Oper} (ho : ops[i]? = some o) (hd : o.dst = none) : Came ops val a₀ (L.setIfInBounds i true) a := by
  obtain ⟨hun, o', ho', haf⟩ := mem_ready.1 hr
  rw [ho] at ho'
  cases ho'
  refine ⟨by simpa using h.size, h.tmps, h.defers, fun j oj dj hj hL hdj => ?_, h.kept, fun j oj hj hL e he hbe => ?_⟩
  · rcases getD_set hL with rfl | hL'
    · rw [ho] at hj
      cases hj
      rw [hd] at hdj
      cases hdj
    · exact h.done j oj dj hj hL' hdj
  · rcases getD_set hL with rfl | hL'
    · rw [ho] at hj
      cases hj
      exact getD_set_mono (haf e he hbe)
    · exact getD_set_mono (h.closed j oj hj hL' e he hbe)
theorem step_val {i : Nat} {o : Oper} {v : Value} {rest : List Nat} {m : Nat} (ho : ops[i]? = some o) (hg : o.guard = none) (hrun : ∀ w₁, R w w₁ → (execOp a.eval o).run P w₁ = .ok (.value v) w₁ ∧ D w₁ w₁ (listed P fn a o w₁)) (hnext : ∀ w₁, R w w₁ → OpsC P main R D fn ops rest m Q (a.put o.dst v) w₁) : OpsC P main R D fn ops (i :: rest) (m + 1) Q a w :=
  opsC_cons ho (by unfold Region.wanted; rw [hg]) fun w₁ h₁ => by rw [(hrun w₁ h₁).1]; exact ⟨(hrun w₁ h₁).2, hnext w₁ h₁⟩
/-- A move. -/
theorem run_move' {o : Oper} {x : Operand} {v : Value} (hop : o.op = .move x) (hv : a.eval x = v) (w : World) : (execOp a.eval o).run P w = .ok (.value v) w ∧ listed P fn a o w = #[] := by
  have e1 : (execOp a.eval o).run P w = .ok (.value v) w := by unfold execOp; simp only [hop, hv]; simp [go_sem]
  exact ⟨e1, listed_nil (by unfold execOp; simp only [hop, hv]; simp [go_sem])⟩
/-- An element's address. -/
theorem run_index' {o : Oper} {x y : Operand} {t : TypeId} {b off len cap : Nat} {i : Nat} (hop : o.op = .indexAddr t x y) {e : TypeId} (ht : P.underlying t = some (.slice e)) (hsz : (P.info? e).map (fun i => (i.zero, i.size, i.bytes)) = some (some (.int .i64 0), 1, 8)) (hx : a.eval x = .slice (some ⟨b, off, none⟩) len cap) (hy : a.eval y = .int .i64 (i : Int)) (hi : i < len) (w : World) : (execOp a.eval o).run P w = .ok (.value (.pointer (some ⟨b, off + i, none⟩))) w ∧ listed P fn a o w = #[] := by
  obtain ⟨i0, hi0, hz0, hz1, hz2⟩ := info_parts hsz
  have hi' : (i : Int) < (len : Int) := by omega
  have e1 : (execOp a.eval o).run P w = .ok (.value (.pointer (some ⟨b, off + i, none⟩))) w := by
    unfold execOp
    simp only [hop, hx, hy]
    simp [go_sem, ht, hi0, hz1, hi, hi', Go.sizeOf, typeInfo, Result.andThen]
  refine ⟨e1, listed_nil ?_⟩
  unfold execOp
  simp only [hop, hx, hy]
  simp [go_sem, ht, hi0, hz1, hi, hi']
end
/-! ### what is held of the world while a stretch is filled -/
/-- The stretch: of a, of b, of the block that is filled; what is in them. -/
structure Str where
  ab : Nat
  ao : Nat
  bb : Nat
  bo : Nat
  lo : Nat
  m : Nat
  X : Nat → Int
  Y : Nat → Int
structure Str.Fits (J : Job) (k : Nat) (s : Str) : Prop where
  fit : J.Fit
  old : J.old < k
  last : k ≤ J.old + J.cnt
  a1 : s.ab ≠ J.Wg
  a2 : s.ab ≠ J.Ob
  a3 : ¬ J.S s.ab
  a4 : s.ab < J.top k
  b1 : s.bb ≠ J.Wg
  b2 : s.bb ≠ J.Ob
  b3 : ¬ J.S s.bb
  b4 : s.bb < J.top k
  mine : ∀ i, i < s.m → J.M k (s.lo + i)
  okX : ∀ i, i < s.m → Fp.ok (s.X i) = true
  okY : ∀ i, i < s.m → Fp.ok (s.Y i) = true
  small : s.m ≤ 100
/-- j are filled. -/
structure FH (J : Job) (k : Nat) (s : Str) (j : Nat) (w : World) : Prop where
  live : J.Lv w
  xa : ∀ i, i < s.m → w.cell? ⟨s.ab, s.ao + i, none⟩ = some (.int .i64 (s.X i))
  yb : ∀ i, i < s.m → w.cell? ⟨s.bb, s.bo + i, none⟩ = some (.int .i64 (s.Y i))
  out : ∀ i, i < s.m → (∃ u, w.cell? ⟨J.Ob, s.lo + i, none⟩ = some u) ∧ w.frozen? ⟨J.Ob, s.lo + i, none⟩ = false
  done : ∀ i, i < j → i < s.m → w.cell? ⟨J.Ob, s.lo + i, none⟩ = some (.int .i64 (J.fx (s.lo + i)))
section
variable {J : Job} {k : Nat} {s : Str} {j : Nat} {w w₁ : World} (F : s.Fits J k)
include F
theorem FH.rely (h : FH J k s j w) (r : J.RW k w w₁) : FH J k s j w₁ :=
  ⟨r.live h.live, fun i hi => (World.cell?_of_block (r.block _ F.a1 F.a2 F.a4)).trans (h.xa i hi), fun i hi => (World.cell?_of_block (r.block _ F.b1 F.b2 F.b4)).trans (h.yb i hi),
   fun i hi => ⟨(h.out i hi).1.imp fun u hu => (r.cells _ (F.mine i hi)).1.trans hu, (r.cells _ (F.mine i hi)).2.trans (h.out i hi).2⟩, fun i hi hm => (r.cells _ (F.mine i hm)).1.trans (h.done i hi hm)⟩
theorem FH.store (h : FH J k s j w) (hj : j < s.m) : FH J k s (j + 1) (w.setCell ⟨J.Ob, s.lo + j, none⟩ (.int .i64 (J.fx (s.lo + j)))) := by
  have hb : ∀ b, b ≠ J.Ob → (w.setCell ⟨J.Ob, s.lo + j, none⟩ (.int .i64 (J.fx (s.lo + j)))).heap[b]? = w.heap[b]? := fun b hb => Below.heap_setCell _ _ _ _ hb
  have hs : ∀ i, i ≠ j → (w.setCell ⟨J.Ob, s.lo + j, none⟩ (.int .i64 (J.fx (s.lo + j)))).cell? ⟨J.Ob, s.lo + i, none⟩ = w.cell? ⟨J.Ob, s.lo + i, none⟩ := fun i hi => World.cell?_setCell_other _ _ _ _ (by intro e; injection e with _ e _; omega)
  obtain ⟨⟨u, hu⟩, hf⟩ := h.out j hj
  have he : (w.setCell ⟨J.Ob, s.lo + j, none⟩ (.int .i64 (J.fx (s.lo + j)))).cell? ⟨J.Ob, s.lo + j, none⟩ = some (.int .i64 (J.fx (s.lo + j))) := World.cell?_setCell_same _ _ _ hu
  obtain ⟨st, sm, hl⟩ := h.live
  have hne : J.Wg ≠ J.Ob := by have := F.fit.ob; omega
  refine ⟨⟨st, sm, (hb _ hne).trans hl⟩, fun i hi => (World.cell?_of_block (hb _ F.a2)).trans (h.xa i hi), fun i hi => (World.cell?_of_block (hb _ F.b2)).trans (h.yb i hi), fun i hi => ⟨?_, by rw [World.frozen?_setCell]; exact (h.out i hi).2⟩, fun i hi hm => ?_⟩
  · by_cases e : i = j
    · subst e; exact ⟨_, he⟩
    · rw [hs i e]; exact (h.out i hi).1
  · by_cases e : i = j
    · subst e; exact he
    · rw [hs i e]; exact h.done i (by omega) hm
theorem FH.dw (h : FH J k s j w) (hj : j < s.m) : J.DW k w (w.setCell ⟨J.Ob, s.lo + j, none⟩ (.int .i64 (J.fx (s.lo + j)))) #[⟨.cell ⟨J.Ob, s.lo + j, none⟩, true, false⟩] := by
  refine ⟨by simp [World.setCell], by simp [World.setCell], by simp [World.setCell], by simp [World.setCell], fun b hb => Below.heap_setCell _ _ _ _ hb, fun i hi => ⟨World.cell?_setCell_other _ _ _ _ ?_, World.frozen?_setCell _ _ _ _⟩, fun cs hc => ?_, fun e he => ?_⟩
  · intro e
    injection e with _ e _
    exact hi (e ▸ F.mine j hj)
  · rw [setCell_eq_setRow w J.Ob (s.lo + j) cs J.oty (0, 0) _ hc, setRow_heap w J.Ob _ _ J.oty _ hc]
    exact ⟨_, rfl, by simp⟩
  · rw [Array.mem_singleton] at he
    subst he
    exact J.evO F.fit (F.mine j hj) true
end
end Go.Proofs.Ytadngncbbbbapaa.Lift
