/-
  Workers that fill stretches of five cells of one block, each its own: an instance of Crew. No program is named here.
-/
import Derived.Test.YtadngncbbbbapaaKayp
import Derived.Conc.CompanyMem
namespace Go.Proofs.Ytadngncbbbbapaa.Lift
open Go.Conc Go.Proofs.Ytadngncbbbbapaa.Crew
open Go.ConcN (Apart)
open Go.ConcR (KK wgBlock WgAt stA smA rd wr mk ofEvent_cell ofEvent_mk)
set_option linter.unusedVariables false
/-- The job: the group's block, the block that is filled, how many goroutines were there, how many cells, how many workers; what each cell is to hold; the blocks that nobody touches. -/
structure Job where
  P : Program
  ty : TypeId
  oty : TypeId
  Wg : Nat
  Ob : Nat
  old : Nat
  n : Nat
  cnt : Nat
  fx : Nat → Int
  S : Nat → Prop
variable (J : Job)
/-- Cell i is worker k's. -/
def Job.M (k i : Nat) : Prop := J.old < k ∧ 5 * (k - J.old - 1) ≤ i ∧ i < 5 * (k - J.old - 1) + 5 ∧ i < J.n
/-- The first block that was not there yet when worker k was started. -/
def Job.top (k : Nat) : Nat := J.Wg + 1 + 2 * (k - J.old)
def Job.Own (k : Nat) (l : Loc) : Prop := ∃ i, l = .cell ⟨J.Ob, i, none⟩ ∧ J.M k i
def Job.Rd (k : Nat) (l : Loc) : Prop := ∃ a : Addr, l = .cell a ∧ J.old < k ∧ a.block ≠ J.Wg ∧ a.block ≠ J.Ob ∧ ¬ J.S a.block ∧ a.block < J.top k
def Job.Sh (l : Loc) : Prop := shun J.S l ∨ ∃ ad : Addr, l = .cell ad ∧ ad.block = J.Wg
/-- The block that is filled stays one of so many cells. -/
def Job.Shp (w w' : World) : Prop := ∀ cs, w.heap[J.Ob]? = some (.cells cs J.oty (0, 0)) → ∃ cs', w'.heap[J.Ob]? = some (.cells cs' J.oty (0, 0)) ∧ cs'.size = cs.size
def Job.Lv (w : World) : Prop := ∃ st sm, WgAt J.ty J.Wg w st sm
structure Job.RW (k : Nat) (w w' : World) : Prop where
  size : w.heap.size ≤ w'.heap.size
  live : J.Lv w → J.Lv w'
  block : ∀ b, b ≠ J.Wg → b ≠ J.Ob → b < J.top k → w'.heap[b]? = w.heap[b]?
  cells : ∀ i, J.M k i → w'.cell? ⟨J.Ob, i, none⟩ = w.cell? ⟨J.Ob, i, none⟩ ∧ w'.frozen? ⟨J.Ob, i, none⟩ = w.frozen? ⟨J.Ob, i, none⟩
structure Job.RC (w w' : World) : Prop where
  os : w'.os = w.os
  tape : w'.tape = w.tape
  output : w'.output = w.output
  size : w'.heap.size = w.heap.size
  live : J.Lv w → J.Lv w'
  block : ∀ b, b ≠ J.Wg → b ≠ J.Ob → w'.heap[b]? = w.heap[b]?
  shp : J.Shp w w'
def Job.core : Crew where
  P := J.P
  ty := J.ty
  Wg := J.Wg
  many := J.cnt
  old := J.old
  last := J.old + J.cnt
  B := J.Wg + 2 + 2 * J.cnt
  Sh := J.Sh
  Own := J.Own
  Rd := J.Rd
  RW := J.RW
  DW := fun _ _ _ _ => False
  Fin := fun k w => ∀ i, J.M k i → w.cell? ⟨J.Ob, i, none⟩ = some (.int .i64 (J.fx i))
  RC := J.RC
  DC := fun _ _ _ _ => False
structure Job.DW (k : Nat) (w w' : World) (es : Array Event) : Prop where
  os : w'.os = w.os
  tape : w'.tape = w.tape
  output : w'.output = w.output
  size : w'.heap.size = w.heap.size
  block : ∀ b, b ≠ J.Ob → w'.heap[b]? = w.heap[b]?
  cells : ∀ i, ¬ J.M k i → w'.cell? ⟨J.Ob, i, none⟩ = w.cell? ⟨J.Ob, i, none⟩ ∧ w'.frozen? ⟨J.Ob, i, none⟩ = w.frozen? ⟨J.Ob, i, none⟩
  shp : J.Shp w w'
  evs : ∀ e ∈ es, EvW J.core k e
structure Job.DC (j : Nat) (w w' : World) (es : Array Event) : Prop where
  size : w.heap.size ≤ w'.heap.size
  block : ∀ b, b < J.top j → w'.heap[b]? = w.heap[b]?
  evs : ∀ e ∈ es, Ev0 J.core j e
def Job.crew : Crew := { J.core with DW := J.DW, DC := J.DC }
/-- What is asked of a job. -/
structure Job.Fit : Prop where
  ob : J.Ob < J.Wg
  obS : 0 < J.n → ¬ J.S J.Ob
variable {J}
theorem Job.ok (h : J.Fit) : Ok J.crew where
  oldLast := by show J.old ≤ J.old + J.cnt; omega
  enough := by show J.old + J.cnt ≤ J.old + J.cnt; omega
  apart := by
    refine ⟨?_, ?_, ?_, ?_⟩
    · rintro k k' l ⟨i, rfl, h1⟩ ⟨i', e, h2⟩
      have : i = i' := by injection e with e; injection e
      subst this
      obtain ⟨a1, a2, a3, a4⟩ := h1
      obtain ⟨b1, b2, b3, b4⟩ := h2
      omega
    · rintro k k' l ⟨i, rfl, h1⟩ ⟨a, e, _, _, h2, _⟩
      injection e with e
      subst e
      exact h2 rfl
    · rintro k l ⟨i, rfl, h1⟩ (⟨a, e, hs⟩ | ⟨a, e, hs⟩)
      · injection e with e
        subst e
        exact h.obS (by have := h1.2.2.2; omega) hs
      · injection e with e
        subst e
        have := h.ob
        simp at hs
        have hs' : J.Ob = J.Wg := hs
        omega
    · rintro k l ⟨a, rfl, _, h1, _, h2, _⟩ (⟨b, e, hs⟩ | ⟨b, e, hs⟩)
      · injection e with e
        subst e
        exact h2 hs
      · injection e with e
        subst e
        exact h1 hs
  wgB := by show J.Wg < J.Wg + 2 + 2 * J.cnt; omega
  wgSh := fun a ha => .inr ⟨a, rfl, ha⟩
  rwRefl := fun k w => ⟨Nat.le_refl _, id, fun _ _ _ _ => rfl, fun _ _ => ⟨rfl, rfl⟩⟩
  rwTrans := fun k a b c x y => ⟨Nat.le_trans x.size y.size, fun l => y.live (x.live l), fun i h1 h2 h3 => (y.block i h1 h2 h3).trans (x.block i h1 h2 h3), fun i hi => ⟨(y.cells i hi).1.trans (x.cells i hi).1, (y.cells i hi).2.trans (x.cells i hi).2⟩⟩
  rwAt := fun k w d => ⟨Nat.le_refl _, id, fun _ _ _ _ => rfl, fun _ _ => ⟨rfl, rfl⟩⟩
  rcRefl := fun w => ⟨rfl, rfl, rfl, rfl, id, fun _ _ _ => rfl, fun cs hc => ⟨cs, hc, rfl⟩⟩
  rcTrans := fun a b c x y => ⟨y.os.trans x.os, y.tape.trans x.tape, y.output.trans x.output, y.size.trans x.size, fun l => y.live (x.live l), fun i h1 h2 => (y.block i h1 h2).trans (x.block i h1 h2), fun cs hc => by
    obtain ⟨c1, h1, s1⟩ := x.shp cs hc
    obtain ⟨c2, h2, s2⟩ := y.shp c1 h1
    exact ⟨c2, h2, s2.trans s1⟩⟩
  rcAt := fun w d => ⟨rfl, rfl, rfl, rfl, id, fun _ _ _ => rfl, fun cs hc => ⟨cs, hc, rfl⟩⟩
  finRely := fun k w w' r hf i hi => (r.cells i hi).1.trans (hf i hi)
  dwRW := fun k k' w w' es d hne => ⟨by rw [d.size]; exact Nat.le_refl _, fun ⟨st, sm, hl⟩ => ⟨st, sm, (d.block _ (by have := h.ob; omega)).trans hl⟩, fun b h1 h2 h3 => d.block b h2, fun i hi => d.cells i fun hk => hne (by obtain ⟨a1, a2, a3, a4⟩ := hi; obtain ⟨b1, b2, b3, b4⟩ := hk; omega)⟩
  dwRC := fun k w w' es d => ⟨d.os, d.tape, d.output, d.size, fun ⟨st, sm, hl⟩ => ⟨st, sm, (d.block _ (by have := h.ob; omega)).trans hl⟩, fun b h1 h2 => d.block b h2, d.shp⟩
  dwWg := fun k w w' es d => d.block _ (by have := h.ob; show J.Wg ≠ J.Ob; omega)
  dwEv := fun k w w' es d => d.evs
  dcRW := fun j k w w' es d hk => by
    have hWg : J.Wg < J.top j := by unfold Job.top; omega
    have hOb : J.Ob < J.top j := by have := h.ob; omega
    exact ⟨d.size, fun ⟨st, sm, hl⟩ => ⟨st, sm, (d.block _ hWg).trans hl⟩, fun b h1 h2 h3 => d.block b (by unfold Job.top at *; omega), fun i hi => ⟨World.cell?_of_block (d.block _ hOb), World.frozen?_of_block (d.block _ hOb)⟩⟩
  dcWg := fun j w w' es d => d.block _ (by show J.Wg < J.top j; unfold Job.top; omega)
  dcEv := fun j w w' es d => d.evs
  wgRW := fun k w w' a hl hl' => by
    have hne : J.Ob ≠ J.Wg := by have := h.ob; omega
    exact ⟨by rw [a.size]; exact Nat.le_refl _, fun _ => hl', fun b h1 h2 h3 => a.block b h1, fun i hi => ⟨World.cell?_of_block (a.block _ hne), World.frozen?_of_block (a.block _ hne)⟩⟩
  wgRC := fun w w' a hl hl' => by
    have hne : J.Ob ≠ J.Wg := by have := h.ob; omega
    exact ⟨a.os, a.tape, a.output, a.size, fun _ => hl', fun b h1 h2 => a.block b h1, fun cs hc => ⟨cs, (a.block _ hne).trans hc, rfl⟩⟩
/-! ### what may be listed -/
theorem Job.evR (h : J.Fit) {k : Nat} (hk : J.old < k) (hk' : k ≤ J.old + J.cnt) {a : Addr} (h1 : a.block ≠ J.Wg) (h2 : a.block ≠ J.Ob) (h3 : ¬ J.S a.block) (h4 : a.block < J.top k) : EvW J.core k ⟨.cell a, false, false⟩ := by
  refine ⟨fun fn pos => ⟨rfl, fun x hx => ?_⟩, by simp, by simp, by simp, ?_⟩
  · rw [ofEvent_cell] at hx
    simp only [MemAct.touch?, Option.some.injEq] at hx
    subst hx
    exact .inr (.inr ⟨⟨a, rfl, hk, h1, h2, h3, h4⟩, rfl⟩)
  · rw [ofEvent_cell]
    show a.block < J.Wg + 2 + 2 * J.cnt
    unfold Job.top at h4
    omega
theorem Job.evO (h : J.Fit) {k i : Nat} (hM : J.M k i) (wr : Bool) : EvW J.core k ⟨.cell ⟨J.Ob, i, none⟩, wr, false⟩ := by
  refine ⟨fun fn pos => ⟨rfl, fun x hx => ?_⟩, by simp, by simp, by simp, ?_⟩
  · rw [ofEvent_cell] at hx
    simp only [MemAct.touch?, Option.some.injEq] at hx
    subst hx
    exact .inr (.inl ⟨i, rfl, hM⟩)
  · rw [ofEvent_cell]
    show J.Ob < J.Wg + 2 + 2 * J.cnt
    have := h.ob
    omega
theorem Job.ev0 (h : J.Fit) {j : Nat} {a : Addr} (wr : Bool) (h1 : a.block ≠ J.Wg) (h2 : a.block ≠ J.Ob) (h3 : ¬ J.S a.block) (h4 : a.block < J.Wg + 2 + 2 * J.cnt) (h5 : wr = true → J.top j ≤ a.block) : Ev0 J.core j ⟨.cell a, wr, false⟩ := by
  refine ⟨fun fn pos => ⟨rfl, fun x hx => ?_⟩, by simp, by simp, by simp, ?_⟩
  · rw [ofEvent_cell] at hx
    simp only [MemAct.touch?, Option.some.injEq] at hx
    subst hx
    refine .inr ⟨?_, fun k hk hj => ?_, fun hw k hk hj => ?_⟩
    · rintro (⟨b, e, hs⟩ | ⟨b, e, hs⟩) <;> injection e with e <;> subst e
      · exact h3 hs
      · exact h1 hs
    · rintro ⟨i, e, _⟩
      injection e with e
      subst e
      exact h2 rfl
    · rintro ⟨b, e, b1, b2, b3, b4, b5⟩
      injection e with e
      subst e
      have := h5 hw
      unfold Job.top at *
      omega
  · rw [ofEvent_cell]
    exact h4
theorem evM_job {j : Nat} (m : Mark) (hm : m = .read (smA J.Wg) ∨ m = .write (smA J.Wg)) : Ev0 J.core j (Go.ConcR.mk m) := by
  rcases hm with rfl | rfl
  · refine ⟨fun fn pos => ⟨rfl, fun x hx => ?_⟩, by simp [mk], by simp [mk], by simp [mk], ?_⟩
    · rw [ofEvent_mk] at hx
      simp only [MemAct.touch?, Option.some.injEq] at hx
      subst hx
      exact .inl ⟨.inr ⟨_, rfl, rfl⟩, by simp⟩
    · rw [ofEvent_mk]
      show J.Wg < J.Wg + 2 + 2 * J.cnt
      omega
  · refine ⟨fun fn pos => ⟨rfl, fun x hx => ?_⟩, by simp [mk], by simp [mk], by simp [mk], ?_⟩
    · rw [ofEvent_mk] at hx
      simp only [MemAct.touch?, Option.some.injEq] at hx
      subst hx
      exact .inl ⟨.inr ⟨_, rfl, rfl⟩, by simp⟩
    · rw [ofEvent_mk]
      show J.Wg < J.Wg + 2 + 2 * J.cnt
      omega
/-! ### terms -/
theorem Job.termsW (k : Nat) : Terms (J.RW k) (J.DW k) := ⟨fun a b c x y => ⟨Nat.le_trans x.size y.size, fun l => y.live (x.live l), fun i h1 h2 h3 => (y.block i h1 h2 h3).trans (x.block i h1 h2 h3), fun i hi => ⟨(y.cells i hi).1.trans (x.cells i hi).1, (y.cells i hi).2.trans (x.cells i hi).2⟩⟩,
  fun w => ⟨rfl, rfl, rfl, rfl, fun _ _ => rfl, fun _ _ => ⟨rfl, rfl⟩, fun cs hc => ⟨cs, hc, rfl⟩, by simp⟩⟩
theorem Job.drawW (k : Nat) : LetsDraw (J.DW k) := fun w => ⟨rfl, rfl, rfl, rfl, fun _ _ => rfl, fun _ _ => ⟨rfl, rfl⟩, fun cs hc => ⟨cs, hc, rfl⟩, by simp⟩
theorem Job.readW (k : Nat) (w : World) {es : Array Event} (h : ∀ e ∈ es, EvW J.core k e) : J.DW k w w es := ⟨rfl, rfl, rfl, rfl, fun _ _ => rfl, fun _ _ => ⟨rfl, rfl⟩, fun cs hc => ⟨cs, hc, rfl⟩, h⟩
theorem Job.relyDraw (k : Nat) (w : World) : J.RW k w { w with drawn := w.drawn + 1 } := ⟨Nat.le_refl _, id, fun _ _ _ _ => rfl, fun _ _ => ⟨rfl, rfl⟩⟩
theorem Job.termsC (j : Nat) : Terms J.RC (J.DC j) := ⟨fun a b c x y => ⟨y.os.trans x.os, y.tape.trans x.tape, y.output.trans x.output, y.size.trans x.size, fun l => y.live (x.live l), fun i h1 h2 => (y.block i h1 h2).trans (x.block i h1 h2), fun cs hc => by
    obtain ⟨c1, h1, s1⟩ := x.shp cs hc
    obtain ⟨c2, h2, s2⟩ := y.shp c1 h1
    exact ⟨c2, h2, s2.trans s1⟩⟩, fun w => ⟨Nat.le_refl _, fun _ _ => rfl, by simp⟩⟩
end Go.Proofs.Ytadngncbbbbapaa.Lift
