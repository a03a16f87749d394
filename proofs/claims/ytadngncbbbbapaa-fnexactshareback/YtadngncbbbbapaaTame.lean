/-
  Operations whose run hangs on memory, on the tape and on nothing else: run in two worlds that part in blocks that nobody may touch any more (empty in the one), they do the same in both and touch none of those blocks; run on another tape that gives the same answers they do the same.
-/
import Derived.Conc.Beside
namespace Go.Proofs.Ytadngncbbbbapaa.Lift
open Go.Conc
set_option linter.unusedVariables false
set_option linter.unusedSectionVars false
set_option linter.unusedSimpArgs false

def re (w : World) (τ : Nat → Question → Nat) (d : Nat) : World := { w with tape := τ, drawn := d }
@[simp] theorem re_heap (w : World) (τ : Nat → Question → Nat) (d : Nat) : (re w τ d).heap = w.heap := rfl
@[simp] theorem re_tape (w : World) (τ : Nat → Question → Nat) (d : Nat) : (re w τ d).tape = τ := rfl
@[simp] theorem re_drawn (w : World) (τ : Nat → Question → Nat) (d : Nat) : (re w τ d).drawn = d := rfl
@[simp] theorem re_re (w : World) (τ τ' : Nat → Question → Nat) (d d' : Nat) : re (re w τ d) τ' d' = re w τ' d' := rfl
theorem re_self (w : World) : re w w.tape w.drawn = w := rfl

/-- Halts that end the run. -/
def Bad : Halt → Prop
  | .stuck _ | .unsupported _ => True
  | _ => False

section
variable (P : Program)
/-- It never comes to an answer. -/
def Dead {α : Type} : Sem α → Prop
  | .pure _ => False
  | .load _ _ k => ∀ v, Dead (k v)
  | .store _ _ _ k => Dead k
  | .new _ k => ∀ r, Dead (k r)
  | .shape _ k => ∀ s, Dead (k s)
  | .freeze _ _ k => Dead k
  | .frozen _ k => ∀ b, Dead (k b)
  | .getObj _ k => ∀ o, Dead (k o)
  | .setObj _ _ k => Dead k
  | .choose _ k => ∀ n, Dead (k n)
  | .sys _ _ => False
  | .program k => Dead (k P)
  | .mark _ k => Dead k
  | .halt h => Bad h

def Tame {α : Type} (φ : α → Prop) : Sem α → Prop
  | .pure a => φ a
  | .load _ _ k => ∀ v, Tame φ (k v)
  | .store _ _ _ k => Tame φ k
  | .new _ k => ∀ r, Tame φ (k r)
  | .shape _ k => (∀ s, Tame φ (k s)) ∧ ∀ e m, Dead P (k (some (e, 0))) ∨ k (some (e, 0)) = k (some (e, m))
  | .freeze _ _ _ => False
  | .frozen _ k => ∀ b, Tame φ (k b)
  | .getObj _ k => ∀ o, Tame φ (k o)
  | .setObj _ _ k => Tame φ k
  | .choose _ k => ∀ n, Tame φ (k n)
  | .sys _ _ => False
  | .program k => Tame φ (k P)
  | .mark m k => (match m with | .noRoom | .extern _ => True | _ => False) ∧ Tame φ k
  | .halt h => match h with | .panic _ | .stuck _ | .unsupported _ => True | _ => False
end

variable {P : Program}
theorem dead_bind {α β : Type} {f : α → Sem β} {e : Sem α} : Dead P e → Dead P (e.bind f) := by
  induction e with
  | pure a => exact fun h => h.elim
  | load m a k ih => exact fun h v => ih v (h v)
  | store m a x k ih => exact fun h => ih h
  | new o k ih => exact fun h v => ih v (h v)
  | shape r k ih => exact fun h v => ih v (h v)
  | freeze a n k ih => exact fun h => ih h
  | frozen a k ih => exact fun h v => ih v (h v)
  | getObj r k ih => exact fun h v => ih v (h v)
  | setObj r o k ih => exact fun h => ih h
  | choose q k ih => exact fun h v => ih v (h v)
  | sys c k ih => exact fun h => h.elim
  | program k ih => exact fun h => ih P h
  | mark m k ih => exact fun h => ih h
  | halt x => exact fun h => h
theorem tame_bind {α β : Type} {φ : α → Prop} {ψ : β → Prop} {f : α → Sem β} {e : Sem α} (he : Tame P φ e) (hf : ∀ a, φ a → Tame P ψ (f a)) : Tame P ψ (e.bind f) := by
  revert he
  induction e with
  | pure a => exact fun h => hf a h
  | load m a k ih => exact fun h v => ih v (h v)
  | store m a x k ih => exact fun h => ih h
  | new o k ih => exact fun h v => ih v (h v)
  | shape r k ih => exact fun h => ⟨fun v => ih v (h.1 v), fun e m => (h.2 e m).imp dead_bind fun he => by simp only [he]⟩
  | freeze a n k ih => exact fun h => h.elim
  | frozen a k ih => exact fun h v => ih v (h v)
  | getObj r k ih => exact fun h v => ih v (h v)
  | setObj r o k ih => exact fun h => ih h
  | choose q k ih => exact fun h v => ih v (h v)
  | sys c k ih => exact fun h => h.elim
  | program k ih => exact fun h => ih P h
  | mark m k ih => exact fun h => ⟨h.1, ih h.2⟩
  | halt x => exact fun h => h
theorem tame_mono {α : Type} {φ ψ : α → Prop} {e : Sem α} (he : Tame P φ e) (hf : ∀ a, φ a → ψ a) : Tame P ψ e := by
  revert he
  induction e with
  | pure a => exact fun h => hf a h
  | load m a k ih => exact fun h v => ih v (h v)
  | store m a x k ih => exact fun h => ih h
  | new o k ih => exact fun h v => ih v (h v)
  | shape r k ih => exact fun h => ⟨fun v => ih v (h.1 v), h.2⟩
  | freeze a n k ih => exact fun h => h.elim
  | frozen a k ih => exact fun h v => ih v (h v)
  | getObj r k ih => exact fun h v => ih v (h v)
  | setObj r o k ih => exact fun h => ih h
  | choose q k ih => exact fun h v => ih v (h v)
  | sys c k ih => exact fun h => h.elim
  | program k ih => exact fun h => ih P h
  | mark m k ih => exact fun h => ⟨h.1, ih h.2⟩
  | halt x => exact fun h => h

/-! ### two worlds -/
/-- The places of blocks that nobody may touch any more. -/
def shun (S : Nat → Prop) : Loc → Prop := fun l => ∃ a : Addr, l = .cell a ∧ S a.block
structure Sim (S : Nat → Prop) (v w : World) : Prop where
  size : v.heap.size = w.heap.size
  same : ∀ b, ¬ S b → v.heap[b]? = w.heap[b]?
  gone : ∀ b, S b → ∃ t c, v.heap[b]? = some (.cells #[] t) ∧ w.heap[b]? = some (.cells c t)
  os : v.os = w.os
  output : v.output = w.output
  tape : v.tape = w.tape
  drawn : v.drawn = w.drawn
def EvO (S : Nat → Prop) (n : Nat) (e : Event) : Prop := (∀ y, (MemAct.ofEvent e).touch? = some y → ¬ shun S y.loc) ∧ e.loc ≠ .mark .disable ∧ e.loc ≠ .mark .enable ∧ (MemAct.ofEvent e).low n
theorem EvO.mono {S : Nat → Prop} {n m : Nat} {e : Event} (h : EvO S n e) (hm : n ≤ m) : EvO S m e := ⟨h.1, h.2.1, h.2.2.1, MemAct.low_mono hm h.2.2.2⟩

section
variable {S : Nat → Prop} {v w : World}
theorem Sim.cell {a : Addr} {x : Value} (h : Sim S v w) (hc : v.cell? a = some x) : ¬ S a.block ∧ w.cell? a = some x ∧ a.block < v.heap.size := by
  have hn : ¬ S a.block := fun hs => by
    obtain ⟨t, c, h1, _⟩ := h.gone _ hs
    simp [World.cell?, h1] at hc
  refine ⟨hn, ?_, ?_⟩
  · unfold World.cell? at hc ⊢; rw [← h.same _ hn]; exact hc
  · rcases Nat.lt_or_ge a.block v.heap.size with hl | hl
    · exact hl
    · simp [World.cell?, Array.getElem?_eq_none hl] at hc
theorem Sim.lt (h : Sim S v w) {b : Nat} (hs : S b) : b < v.heap.size := by
  obtain ⟨t, c, h1, _⟩ := h.gone _ hs
  exact (Array.getElem?_eq_some_iff.1 h1).1
theorem Sim.frozen (h : Sim S v w) (a : Addr) : v.frozen? a = w.frozen? a := by
  by_cases hs : S a.block
  · obtain ⟨t, c, h1, h2⟩ := h.gone _ hs
    simp [World.frozen?, h1, h2]
  · simp only [World.frozen?, h.same _ hs]
theorem Sim.setAt (h : Sim S v w) {b : Nat} (hb : ¬ S b) (f : Obj → Obj) : Sim S { v with heap := v.heap.modify b f } { w with heap := w.heap.modify b f } := by
  refine ⟨by simp [h.size], fun i hi => ?_, fun i hi => ?_, h.os, h.output, h.tape, h.drawn⟩
  · simp only [Array.getElem?_modify, h.same i hi]
  · obtain ⟨t, c, h1, h2⟩ := h.gone i hi
    have hne : ¬ b = i := fun e => hb (e ▸ hi)
    exact ⟨t, c, by simp [Array.getElem?_modify, hne, h1], by simp [Array.getElem?_modify, hne, h2]⟩
theorem Sim.putAt (h : Sim S v w) {b : Nat} (hb : ¬ S b) (o : Obj) : Sim S { v with heap := v.heap.setIfInBounds b o } { w with heap := w.heap.setIfInBounds b o } := by
  refine ⟨by simp [h.size], fun i hi => ?_, fun i hi => ?_, h.os, h.output, h.tape, h.drawn⟩
  · by_cases e : b = i
    · subst e; simp [h.size, Array.getElem?_setIfInBounds]
    · simp only [Array.getElem?_setIfInBounds_ne e, h.same i hi]
  · obtain ⟨t, c, h1, h2⟩ := h.gone i hi
    have hne : ¬ b = i := fun e => hb (e ▸ hi)
    exact ⟨t, c, by simp only [Array.getElem?_setIfInBounds_ne hne, h1], by simp only [Array.getElem?_setIfInBounds_ne hne, h2]⟩
theorem Sim.push (h : Sim S v w) (o : Obj) : Sim S { v with heap := v.heap.push o } { w with heap := w.heap.push o } := by
  refine ⟨by simp [h.size], fun i hi => ?_, fun i hi => ?_, h.os, h.output, h.tape, h.drawn⟩
  · simp only [Array.getElem?_push, h.size, h.same i hi]
  · obtain ⟨t, c, h1, h2⟩ := h.gone i hi
    have l1 := (Array.getElem?_eq_some_iff.1 h1).1
    have l2 := (Array.getElem?_eq_some_iff.1 h2).1
    exact ⟨t, c, by simp only [Array.getElem?_push]; rw [if_neg (by omega)]; exact h1, by simp only [Array.getElem?_push]; rw [if_neg (by omega)]; exact h2⟩
theorem Sim.drew (h : Sim S v w) : Sim S { v with drawn := v.drawn + 1 } { w with drawn := w.drawn + 1 } := ⟨h.size, h.same, h.gone, h.os, h.output, h.tape, by simp [h.drawn]⟩

/-! ### memory seen through another type -/
theorem plain_bytes {p : Program} (d : Nat) : ∀ {t : TypeId} {off : Nat} {x : Value}, plainCell p d t off = some x → ∃ n, x.bytes?.map (·.length) = some (n + 1) := by
  induction d with
  | zero => intro t off x h; simp [plainCell] at h
  | succ d ih =>
    intro t off x h
    unfold plainCell at h
    generalize p.underlying t = u at h
    cases u with
    | none => cases h
    | some u =>
      cases u <;> simp only at h <;> try (cases h; done)
      all_goals try (split at h <;> first | (cases h; done) | (cases h; exact ⟨_, rfl⟩) | exact ih h)
      all_goals try (rename_i k; split at h <;> first | (cases h; done) | (cases h; cases k <;> exact ⟨_, rfl⟩))
      · rename_i fs
        rw [← Array.findSome?_toList] at h
        obtain ⟨f, _, hf⟩ := List.exists_of_findSome?_eq_some h
        split at hf
        · exact ih hf
        · cases hf
end
end Go.Proofs.Ytadngncbbbbapaa.Lift
