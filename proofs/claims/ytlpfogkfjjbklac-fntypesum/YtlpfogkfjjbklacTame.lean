/-
  Operations whose run hangs on memory, on the tape and on nothing else: run in two worlds that part in blocks that nobody may touch any more (empty in the one), they do the same in both and touch none of those blocks; run on another tape that gives the same answers they do the same.
  Two worlds that part in blocks that nobody may touch: an operation that ends well in the one does the same in the other. Two tapes that give the same answers: it does the same.
  The same operation in two worlds that part in blocks that nobody may touch; on two tapes that give the same answers.
  An operation takes of the tape so many answers and looks at nothing else of it.
  A goroutine all of whose frames hold tame code: its step, whatever lies below its frames, in two worlds that part in blocks that nobody may touch, on two tapes.
  Tame code that comes to an end on every tape when it runs alone comes to it by steps of which each is the next whatever the tape gives there.
  Tame code that comes to an end on every tape when it runs alone: the tree of all that may come.
-/
import Derived.Conc.Beside
import Derived.Conc.Own
import Derived.Calls
namespace Go.Proofs.Ytlpfogkfjjbklac.Lift
open Go.Conc
set_option linter.unusedVariables false
set_option linter.unusedSectionVars false
set_option linter.unusedSimpArgs false

def re (w : World) (τ : Nat → Question → Nat) (d : Nat) : World := { w with tape := τ, drawn := d }
@[simp] theorem re_heap (w : World) (τ : Nat → Question → Nat) (d : Nat) : (re w τ d).heap = w.heap := rfl
@[simp] theorem re_tape (w : World) (τ : Nat → Question → Nat) (d : Nat) : (re w τ d).tape = τ := rfl
@[simp] theorem re_drawn (w : World) (τ : Nat → Question → Nat) (d : Nat) : (re w τ d).drawn = d := rfl
@[simp] theorem re_re (w : World) (τ τ' : Nat → Question → Nat) (d d' : Nat) : re (re w τ d) τ' d' = re w τ' d' := rfl
theorem re_self (w : World) : re w w.tape w.drawn = w := rfl

/-- Halts that end the run. -/
def Bad : Halt → Prop
  | .stuck _ | .unsupported _ => True
  | _ => False

section
variable (P : Program)
/-- It never comes to an answer. -/
def Dead {α : Type} : Sem α → Prop
  | .pure _ => False
  | .load _ _ k => ∀ v, Dead (k v)
  | .store _ _ _ k => Dead k
  | .new _ k => ∀ r, Dead (k r)
  | .shape _ k => ∀ s, Dead (k s)
  | .freeze _ _ k => Dead k
  | .frozen _ k => ∀ b, Dead (k b)
  | .getObj _ k => ∀ o, Dead (k o)
  | .setObj _ _ k => Dead k
  | .choose _ k => ∀ n, Dead (k n)
  | .sys _ _ => False
  | .program k => Dead (k P)
  | .mark _ k => Dead k
  | .halt h => Bad h

def Tame {α : Type} (φ : α → Prop) : Sem α → Prop
  | .pure a => φ a
  | .load _ _ k => ∀ v, Tame φ (k v)
  | .store _ _ _ k => Tame φ k
  | .new _ k => ∀ r, Tame φ (k r)
  | .shape _ k => (∀ s, Tame φ (k s)) ∧ ∀ e m, Dead P (k (some (e, 0))) ∨ k (some (e, 0)) = k (some (e, m))
  | .freeze _ _ _ => False
  | .frozen _ k => ∀ b, Tame φ (k b)
  | .getObj _ k => ∀ o, Tame φ (k o)
  | .setObj _ _ k => Tame φ k
  | .choose _ k => ∀ n, Tame φ (k n)
  | .sys _ _ => False
  | .program k => Tame φ (k P)
  | .mark m k => (match m with | .noRoom | .extern _ => True | _ => False) ∧ Tame φ k
  | .halt h => match h with | .panic _ | .stuck _ | .unsupported _ => True | _ => False
end

variable {P : Program}
theorem dead_bind {α β : Type} {f : α → Sem β} {e : Sem α} : Dead P e → Dead P (e.bind f) := by
  induction e with
  | pure a => exact fun h => h.elim
  | load m a k ih => exact fun h v => ih v (h v)
  | store m a x k ih => exact fun h => ih h
  | new o k ih => exact fun h v => ih v (h v)
  | shape r k ih => exact fun h v => ih v (h v)
  | freeze a n k ih => exact fun h => ih h
  | frozen a k ih => exact fun h v => ih v (h v)
  | getObj r k ih => exact fun h v => ih v (h v)
  | setObj r o k ih => exact fun h => ih h
  | choose q k ih => exact fun h v => ih v (h v)
  | sys c k ih => exact fun h => h.elim
  | program k ih => exact fun h => ih P h
  | mark m k ih => exact fun h => ih h
  | halt x => exact fun h => h
theorem tame_bind {α β : Type} {φ : α → Prop} {ψ : β → Prop} {f : α → Sem β} {e : Sem α} (he : Tame P φ e) (hf : ∀ a, φ a → Tame P ψ (f a)) : Tame P ψ (e.bind f) := by
  revert he
  induction e with
  | pure a => exact fun h => hf a h
  | load m a k ih => exact fun h v => ih v (h v)
  | store m a x k ih => exact fun h => ih h
  | new o k ih => exact fun h v => ih v (h v)
  | shape r k ih => exact fun h => ⟨fun v => ih v (h.1 v), fun e m => (h.2 e m).imp dead_bind fun he => by simp only [he]⟩
  | freeze a n k ih => exact fun h => h.elim
  | frozen a k ih => exact fun h v => ih v (h v)
  | getObj r k ih => exact fun h v => ih v (h v)
  | setObj r o k ih => exact fun h => ih h
  | choose q k ih => exact fun h v => ih v (h v)
  | sys c k ih => exact fun h => h.elim
  | program k ih => exact fun h => ih P h
  | mark m k ih => exact fun h => ⟨h.1, ih h.2⟩
  | halt x => exact fun h => h
theorem tame_mono {α : Type} {φ ψ : α → Prop} {e : Sem α} (he : Tame P φ e) (hf : ∀ a, φ a → ψ a) : Tame P ψ e := by
  revert he
  induction e with
  | pure a => exact fun h => hf a h
  | load m a k ih => exact fun h v => ih v (h v)
  | store m a x k ih => exact fun h => ih h
  | new o k ih => exact fun h v => ih v (h v)
  | shape r k ih => exact fun h => ⟨fun v => ih v (h.1 v), h.2⟩
  | freeze a n k ih => exact fun h => h.elim
  | frozen a k ih => exact fun h v => ih v (h v)
  | getObj r k ih => exact fun h v => ih v (h v)
  | setObj r o k ih => exact fun h => ih h
  | choose q k ih => exact fun h v => ih v (h v)
  | sys c k ih => exact fun h => h.elim
  | program k ih => exact fun h => ih P h
  | mark m k ih => exact fun h => ⟨h.1, ih h.2⟩
  | halt x => exact fun h => h

/-! ### two worlds -/
/-- The places of blocks that nobody may touch any more. -/
def shun (S : Nat → Prop) : Loc → Prop := fun l => ∃ a : Addr, l = .cell a ∧ S a.block
structure Sim (S : Nat → Prop) (v w : World) : Prop where
  size : v.heap.size = w.heap.size
  same : ∀ b, ¬ S b → v.heap[b]? = w.heap[b]?
  gone : ∀ b, S b → ∃ t c, v.heap[b]? = some (.cells #[] t) ∧ w.heap[b]? = some (.cells c t)
  os : v.os = w.os
  output : v.output = w.output
  tape : v.tape = w.tape
  drawn : v.drawn = w.drawn
def EvO (S : Nat → Prop) (n : Nat) (e : Event) : Prop := (∀ y, (MemAct.ofEvent e).touch? = some y → ¬ shun S y.loc) ∧ e.loc ≠ .mark .disable ∧ e.loc ≠ .mark .enable ∧ (MemAct.ofEvent e).low n
theorem EvO.mono {S : Nat → Prop} {n m : Nat} {e : Event} (h : EvO S n e) (hm : n ≤ m) : EvO S m e := ⟨h.1, h.2.1, h.2.2.1, MemAct.low_mono hm h.2.2.2⟩

section
variable {S : Nat → Prop} {v w : World}
theorem Sim.cell {a : Addr} {x : Value} (h : Sim S v w) (hc : v.cell? a = some x) : ¬ S a.block ∧ w.cell? a = some x ∧ a.block < v.heap.size := by
  have hn : ¬ S a.block := fun hs => by
    obtain ⟨t, c, h1, _⟩ := h.gone _ hs
    simp [World.cell?, h1] at hc
  refine ⟨hn, ?_, ?_⟩
  · unfold World.cell? at hc ⊢; rw [← h.same _ hn]; exact hc
  · rcases Nat.lt_or_ge a.block v.heap.size with hl | hl
    · exact hl
    · simp [World.cell?, Array.getElem?_eq_none hl] at hc
theorem Sim.lt (h : Sim S v w) {b : Nat} (hs : S b) : b < v.heap.size := by
  obtain ⟨t, c, h1, _⟩ := h.gone _ hs
  exact (Array.getElem?_eq_some_iff.1 h1).1
theorem Sim.frozen (h : Sim S v w) (a : Addr) : v.frozen? a = w.frozen? a := by
  by_cases hs : S a.block
  · obtain ⟨t, c, h1, h2⟩ := h.gone _ hs
    simp [World.frozen?, h1, h2]
  · simp only [World.frozen?, h.same _ hs]
theorem Sim.setAt (h : Sim S v w) {b : Nat} (hb : ¬ S b) (f : Obj → Obj) : Sim S { v with heap := v.heap.modify b f } { w with heap := w.heap.modify b f } := by
  refine ⟨by simp [h.size], fun i hi => ?_, fun i hi => ?_, h.os, h.output, h.tape, h.drawn⟩
  · simp only [Array.getElem?_modify, h.same i hi]
  · obtain ⟨t, c, h1, h2⟩ := h.gone i hi
    have hne : ¬ b = i := fun e => hb (e ▸ hi)
    exact ⟨t, c, by simp [Array.getElem?_modify, hne, h1], by simp [Array.getElem?_modify, hne, h2]⟩
theorem Sim.putAt (h : Sim S v w) {b : Nat} (hb : ¬ S b) (o : Obj) : Sim S { v with heap := v.heap.setIfInBounds b o } { w with heap := w.heap.setIfInBounds b o } := by
  refine ⟨by simp [h.size], fun i hi => ?_, fun i hi => ?_, h.os, h.output, h.tape, h.drawn⟩
  · by_cases e : b = i
    · subst e; simp [h.size, Array.getElem?_setIfInBounds]
    · simp only [Array.getElem?_setIfInBounds_ne e, h.same i hi]
  · obtain ⟨t, c, h1, h2⟩ := h.gone i hi
    have hne : ¬ b = i := fun e => hb (e ▸ hi)
    exact ⟨t, c, by simp only [Array.getElem?_setIfInBounds_ne hne, h1], by simp only [Array.getElem?_setIfInBounds_ne hne, h2]⟩
theorem Sim.push (h : Sim S v w) (o : Obj) : Sim S { v with heap := v.heap.push o } { w with heap := w.heap.push o } := by
  refine ⟨by simp [h.size], fun i hi => ?_, fun i hi => ?_, h.os, h.output, h.tape, h.drawn⟩
  · simp only [Array.getElem?_push, h.size, h.same i hi]
  · obtain ⟨t, c, h1, h2⟩ := h.gone i hi
    have l1 := (Array.getElem?_eq_some_iff.1 h1).1
    have l2 := (Array.getElem?_eq_some_iff.1 h2).1
    exact ⟨t, c, by simp only [Array.getElem?_push]; rw [if_neg (by omega)]; exact h1, by simp only [Array.getElem?_push]; rw [if_neg (by omega)]; exact h2⟩
theorem Sim.drew (h : Sim S v w) : Sim S { v with drawn := v.drawn + 1 } { w with drawn := w.drawn + 1 } := ⟨h.size, h.same, h.gone, h.os, h.output, h.tape, by simp [h.drawn]⟩

/-! ### memory seen through another type -/
theorem plain_bytes {p : Program} (d : Nat) : ∀ {t : TypeId} {off : Nat} {x : Value}, plainCell p d t off = some x → ∃ n, x.bytes?.map (·.length) = some (n + 1) := by
  induction d with
  | zero => intro t off x h; simp [plainCell] at h
  | succ d ih =>
    intro t off x h
    unfold plainCell at h
    generalize p.underlying t = u at h
    cases u with
    | none => cases h
    | some u =>
      cases u <;> simp only at h <;> try (cases h; done)
      all_goals try (split at h <;> first | (cases h; done) | (cases h; exact ⟨_, rfl⟩) | exact ih h)
      all_goals try (rename_i k; split at h <;> first | (cases h; done) | (cases h; cases k <;> exact ⟨_, rfl⟩))
      · rename_i fs
        rw [← Array.findSome?_toList] at h
        obtain ⟨f, _, hf⟩ := List.exists_of_findSome?_eq_some h
        split at hf
        · exact ih hf
        · cases hf
end
end Go.Proofs.Ytlpfogkfjjbklac.Lift
namespace Go.Proofs.Ytlpfogkfjjbklac.Lift
open Go.Conc
set_option linter.unusedVariables false
set_option linter.unusedSectionVars false
set_option linter.unusedSimpArgs false
variable {P : Program} {S : Nat → Prop} {v w : World}

theorem seenCells_empty {p : Program} {e : TypeId} {n x stop : Nat} (h : x < stop) : ∃ why, seenCells p #[] e (n + 1) x stop = .error why := by
  unfold seenCells
  rw [if_neg (by omega)]
  simp only
  split
  · exact ⟨_, rfl⟩
  · split
    · exact ⟨_, rfl⟩
    · simp

theorem seen_sim {p : Program} {a k : Addr} {u : TypeId} {b : Bool} (h : Sim S v w) : (¬ S a.block ∧ v.seen p a u k b = w.seen p a u k b) ∨ (∃ why, v.seen p a u k b = .error why) := by
  by_cases hs : S a.block
  · refine .inr ?_
    obtain ⟨t, c, h1, _⟩ := h.gone _ hs
    unfold World.seen
    simp only [h1]
    by_cases h0 : (k.spot.isSome || a.spot.isSome) = true
    · simp only [h0, if_true]; exact ⟨_, rfl⟩
    · simp only [h0, if_false, Bool.false_eq_true]
      cases hp : plainCell p p.depth u k.off with
      | none => exact ⟨_, rfl⟩
      | some like =>
        obtain ⟨n, hn⟩ := plain_bytes _ hp
        simp only [hn]
        cases hb : byteOfCell p p.depth u k.off with
        | none => exact ⟨_, rfl⟩
        | some β =>
          simp only
          by_cases hz : p.cellsOf t = 0
          · simp only [hz, if_true]; exact ⟨_, rfl⟩
          · simp only [hz, if_false]
            cases hc : byteOfCell p p.depth t (a.off % p.cellsOf t) with
            | none => exact ⟨_, rfl⟩
            | some b0 =>
              obtain ⟨why, hw⟩ := seenCells_empty (p := p) (e := t) (n := n + 1) (x := a.off / p.cellsOf t * p.bytesOf t + b0 + β) (stop := a.off / p.cellsOf t * p.bytesOf t + b0 + β + (n + 1)) (by omega)
              exact ⟨why, by simp only [bind, Except.bind, pure, Except.pure]; rw [hw]⟩
  · exact .inl ⟨hs, by unfold World.seen; rw [h.same _ hs]⟩

theorem seen_none {p : Program} {a k : Addr} {u : TypeId} {b : Bool} (h1 : v.heap[a.block]? = none) : ∃ why, v.seen p a u k b = .error why := by
  unfold World.seen
  simp only [h1]
  by_cases h0 : (k.spot.isSome || a.spot.isSome) = true
  · simp only [h0, if_true]; exact ⟨_, rfl⟩
  · simp only [h0, if_false, Bool.false_eq_true]
    cases hp : plainCell p p.depth u k.off with
    | none => exact ⟨_, rfl⟩
    | some like =>
      simp only
      cases hl : like.bytes?.map (·.length) with
      | none => exact ⟨_, rfl⟩
      | some n =>
        simp only
        cases hb : byteOfCell p p.depth u k.off with
        | none => exact ⟨_, rfl⟩
        | some β => exact ⟨_, rfl⟩

theorem viewLoad_sim {p : Program} {a k : Addr} {u : TypeId} {b : Bool} {x : Value} {l : List Addr} (h : Sim S v w) (hv : v.viewLoad p a u k b = .ok (x, l)) : w.viewLoad p a u k b = .ok (x, l) ∧ ∀ y ∈ l, ¬ S y.block ∧ y.block < v.heap.size := by
  rcases seen_sim (p := p) (a := a) (k := k) (u := u) (b := b) h with ⟨hs, he⟩ | ⟨why, he⟩
  · refine ⟨by unfold World.viewLoad at hv ⊢; rw [← he]; exact hv, ?_⟩
    have hlt : a.block < v.heap.size := by
      rcases Nat.lt_or_ge a.block v.heap.size with hl | hl
      · exact hl
      · exfalso
        obtain ⟨why, hw⟩ := seen_none (p := p) (k := k) (u := u) (b := b) (Array.getElem?_eq_none hl)
        unfold World.viewLoad at hv
        rw [hw] at hv
        cases hv
    intro y hy
    have : y.block = a.block := by
      unfold World.viewLoad at hv
      simp only [bind, Except.bind, pure, Except.pure, throw, throwThe, MonadExceptOf.throw] at hv
      repeat' (first | (cases hv; done) | split at hv)
      simp only [Except.ok.injEq, Prod.mk.injEq] at hv
      rw [← hv.2] at hy
      obtain ⟨z, _, rfl⟩ := List.mem_map.1 hy
      rfl
    rw [this]; exact ⟨hs, hlt⟩
  · unfold World.viewLoad at hv
    rw [he] at hv
    cases hv

theorem viewStore_sim {p : Program} {a k : Addr} {u : TypeId} {b : Bool} {x : Value} {v' : World} {l : List Addr} (h : Sim S v w) (hv : v.viewStore p a u k x b = .ok (v', l)) :
    ∃ w', w.viewStore p a u k x b = .ok (w', l) ∧ Sim S v' w' ∧ (∀ y ∈ l, ¬ S y.block ∧ y.block < v.heap.size) ∧ v'.heap.size = v.heap.size ∧ v'.tape = v.tape ∧ v'.drawn = v.drawn := by
  rcases seen_sim (p := p) (a := a) (k := k) (u := u) (b := b) h with ⟨hs, he⟩ | ⟨why, he⟩
  · have hlt : a.block < v.heap.size := by
      rcases Nat.lt_or_ge a.block v.heap.size with hl | hl
      · exact hl
      · exfalso
        obtain ⟨why, hw⟩ := seen_none (p := p) (k := k) (u := u) (b := b) (Array.getElem?_eq_none hl)
        unfold World.viewStore at hv
        rw [hw] at hv
        simp only [bind, Except.bind, pure, Except.pure, throw, throwThe, MonadExceptOf.throw] at hv
        split at hv <;> cases hv
    unfold World.viewStore at hv ⊢
    rw [← he]
    simp only [bind, Except.bind, pure, Except.pure, throw, throwThe, MonadExceptOf.throw] at hv ⊢
    repeat' (first | (cases hv; done) | split at hv)
    simp only [Except.ok.injEq, Prod.mk.injEq] at hv
    obtain ⟨rfl, rfl⟩ := hv
    rename_i hc
    refine ⟨_, by simp_all, h.putAt hs _, fun y hy => ?_, by simp, rfl, rfl⟩
    obtain ⟨z, _, rfl⟩ := List.mem_map.1 hy
    exact ⟨hs, hlt⟩
  · unfold World.viewStore at hv
    rw [he] at hv
    simp only [bind, Except.bind, pure, Except.pure, throw, throwThe, MonadExceptOf.throw] at hv
    split at hv <;> cases hv
end Go.Proofs.Ytlpfogkfjjbklac.Lift
namespace Go.Proofs.Ytlpfogkfjjbklac.Lift
open Go.Conc
set_option linter.unusedVariables false
set_option linter.unusedSectionVars false
set_option linter.unusedSimpArgs false
variable {P : Program} {S : Nat → Prop} {v w : World}

def Keep (v v' : World) : Prop := v'.tape = v.tape ∧ v.drawn ≤ v'.drawn ∧ v.heap.size ≤ v'.heap.size
theorem Keep.refl (v : World) : Keep v v := ⟨rfl, Nat.le_refl _, Nat.le_refl _⟩
theorem Keep.trans {a b c : World} (h : Keep a b) (k : Keep b c) : Keep a c := ⟨k.1.trans h.1, Nat.le_trans h.2.1 k.2.1, Nat.le_trans h.2.2 k.2.2⟩

theorem farLoad_bad {p : Program} {a : Addr} {b : Bool} {h : Halt} (hl : v.farLoad p a b = .error h) : Bad h := by
  unfold World.farLoad World.noCell at hl
  repeat' split at hl
  all_goals (cases hl <;> trivial)
theorem farStore_bad {p : Program} {a : Addr} {x : Value} {b : Bool} {h : Halt} (hl : v.farStore p a x b = .error h) : Bad h := by
  unfold World.farStore World.noCell at hl
  repeat' split at hl
  all_goals (cases hl <;> trivial)
theorem farLoad_sim {p : Program} {a : Addr} {b : Bool} {x : Value} {l : List Addr} (h : Sim S v w) (hv : v.farLoad p a b = .ok (x, l)) : w.farLoad p a b = .ok (x, l) ∧ w.cell? a = none ∧ ∀ y ∈ l, ¬ S y.block ∧ y.block < v.heap.size := by
  unfold World.farLoad at hv
  split at hv
  · rename_i at_ u ho
    have hn : ¬ S a.block := fun hs => by obtain ⟨t, c, h1, _⟩ := h.gone _ hs; rw [h1] at ho; cases ho
    have ho' : w.heap[a.block]? = some (.view at_ u) := by rw [← h.same _ hn]; exact ho
    split at hv
    · rename_i r hr
      cases hv
      obtain ⟨h1, h2⟩ := viewLoad_sim h hr
      exact ⟨by simp only [World.farLoad, ho', h1], by simp only [World.cell?, ho'], h2⟩
    · cases hv
  · cases hv
theorem farStore_sim {p : Program} {a : Addr} {b : Bool} {x : Value} {v' : World} {l : List Addr} (h : Sim S v w) (hv : v.farStore p a x b = .ok (v', l)) :
    ∃ w', w.farStore p a x b = .ok (w', l) ∧ w.cell? a = none ∧ Sim S v' w' ∧ (∀ y ∈ l, ¬ S y.block ∧ y.block < v.heap.size) ∧ v'.heap.size = v.heap.size ∧ v'.tape = v.tape ∧ v'.drawn = v.drawn := by
  unfold World.farStore at hv
  split at hv
  · rename_i at_ u ho
    have hn : ¬ S a.block := fun hs => by obtain ⟨t, c, h1, _⟩ := h.gone _ hs; rw [h1] at ho; cases ho
    have ho' : w.heap[a.block]? = some (.view at_ u) := by rw [← h.same _ hn]; exact ho
    split at hv
    · rename_i r hr
      cases hv
      obtain ⟨w', h1, h2⟩ := viewStore_sim h hr
      exact ⟨w', by simp only [World.farStore, ho', h1], by simp only [World.cell?, ho'], h2⟩
    · cases hv
  · cases hv

theorem dead_run {α : Type} {e : Sem α} (hd : Dead P e) : ∀ (v : World) (es : Array Event), ∃ h v' es', e.runT P v es = (.halt h v', es') ∧ Bad h := by
  revert hd
  induction e with
  | pure a => exact fun h => h.elim
  | load m a k ih =>
    intro hd v es
    simp only [Sem.runT]
    split
    · exact ih _ (hd _) _ _
    · split
      · exact ih _ (hd _) _ _
      · rename_i he; exact ⟨_, _, _, rfl, farLoad_bad he⟩
  | store m a x k ih =>
    intro hd v es
    cases x <;> simp only [Sem.runT] <;> first
      | exact ⟨_, _, _, rfl, trivial⟩
      | (split
         · split
           · exact ⟨_, _, _, rfl, trivial⟩
           · exact ih hd _ _
         · split
           · exact ih hd _ _
           · rename_i he; exact ⟨_, _, _, rfl, farStore_bad he⟩)
  | new o k ih => exact fun hd v es => ih _ (hd _) _ _
  | shape r k ih => exact fun hd v es => ih _ (hd _) _ _
  | freeze a n k ih => exact fun hd v es => ih hd _ _
  | frozen a k ih => exact fun hd v es => ih _ (hd _) _ _
  | getObj r k ih =>
    intro hd v es
    simp only [Sem.runT]
    split
    · exact ⟨_, _, _, rfl, trivial⟩
    · exact ih _ (hd _) _ _
    · exact ⟨_, _, _, rfl, trivial⟩
  | setObj r o k ih =>
    intro hd v es
    simp only [Sem.runT]
    split
    · exact ⟨_, _, _, rfl, trivial⟩
    · exact ih hd _ _
    · exact ⟨_, _, _, rfl, trivial⟩
  | choose q k ih =>
    intro hd v es
    simp only [Sem.runT]
    split
    · exact ih _ (hd _) _ _
    · exact ih _ (hd _) _ _
  | sys c k ih => exact fun h => h.elim
  | program k ih => exact fun hd v es => ih P hd _ _
  | mark m k ih => exact fun hd v es => ih hd _ _
  | halt x => exact fun hd v es => ⟨_, _, _, rfl, hd⟩

/-- What ends well in the one world does the same in the other. -/
def Locked {α : Type} (S : Nat → Prop) (φ : α → Prop) (v : World) (es : Array Event) (rv rw : Result α × Array Event) : Prop :=
  match rv with
  | (.ok a v', es') => φ a ∧ ∃ w', rw = (.ok a w', es') ∧ Sim S v' w' ∧ Keep v v' ∧ ∀ x ∈ es', x ∈ es ∨ EvO S v'.heap.size x
  | (.halt h v', es') => Bad h ∨ ((∃ pv, h = .panic pv) ∧ ∃ w', rw = (.halt h w', es') ∧ Sim S v' w' ∧ Keep v v' ∧ ∀ x ∈ es', x ∈ es ∨ EvO S v'.heap.size x)
theorem Locked.from {α : Type} {φ : α → Prop} {v v₁ : World} {es es₁ : Array Event} {rv rw : Result α × Array Event} (h : Locked S φ v₁ es₁ rv rw) (hk : Keep v v₁) (he : ∀ x ∈ es₁, x ∈ es ∨ EvO S v₁.heap.size x) : Locked S φ v es rv rw := by
  have fix : ∀ {v' : World} {es' : Array Event}, Keep v₁ v' → (∀ x ∈ es', x ∈ es₁ ∨ EvO S v'.heap.size x) → ∀ x ∈ es', x ∈ es ∨ EvO S v'.heap.size x := fun hk' hx x hm =>
    (hx x hm).elim (fun h1 => (he x h1).imp id fun h2 => h2.mono hk'.2.2) .inr
  obtain ⟨r, es'⟩ := rv
  cases r with
  | ok a v' =>
    obtain ⟨h1, w', h2, h3, h4, h5⟩ := h
    exact ⟨h1, w', h2, h3, hk.trans h4, fix h4 h5⟩
  | halt x v' =>
    rcases h with h | ⟨h1, w', h2, h3, h4, h5⟩
    · exact .inl h
    · exact .inr ⟨h1, w', h2, h3, hk.trans h4, fix h4 h5⟩
theorem ev_cell {a : Addr} {b s : Bool} {n : Nat} (h1 : ¬ S a.block) (h2 : a.block < n) : EvO S n ⟨.cell a, b, s⟩ := by
  have e : MemAct.ofEvent ⟨.cell a, b, s⟩ = .access ⟨.cell a, b, s⟩ := by cases b <;> cases s <;> rfl
  refine ⟨fun y hy => ?_, by simp, by simp, by rw [e]; exact h2⟩
  rw [e] at hy
  simp only [MemAct.touch?, Option.some.injEq] at hy
  subst hy
  rintro ⟨a', ha, hs⟩
  cases ha
  exact h1 hs
theorem ev_obj {r : Nat} {b s : Bool} {n : Nat} (h2 : r < n) : EvO S n ⟨.obj r, b, s⟩ := by
  refine ⟨fun y hy => ?_, by simp, by simp, by cases b <;> cases s <;> exact h2⟩
  rintro ⟨a', ha, hs⟩
  cases b <;> cases s <;> simp [MemAct.ofEvent, MemAct.touch?] at hy <;> (subst hy; cases ha)
theorem ev_mark {m : Mark} {n : Nat} (h : match m with | .noRoom | .extern _ => True | _ => False) : EvO S n ⟨.mark m, false, true⟩ := by
  cases m <;> first | exact h.elim | exact ⟨fun y hy => by simp [MemAct.ofEvent, MemAct.touch?] at hy, by simp, by simp, trivial⟩

set_option maxHeartbeats 1000000 in
theorem lock {α : Type} {φ : α → Prop} {e : Sem α} (ht : Tame P φ e) : ∀ (v w : World) (es : Array Event), Sim S v w → Locked S φ v es (e.runT P v es) (e.runT P w es) := by
  have push : ∀ {es : Array Event} {ev : Event} {n : Nat}, EvO S n ev → ∀ x ∈ es.push ev, x ∈ es ∨ EvO S n x := fun h x hx => (Array.mem_push.1 hx).imp id fun e => by subst e; exact h
  have many : ∀ {es : Array Event} {l : List Addr} {b s : Bool} {n : Nat}, (∀ y ∈ l, ¬ S y.block ∧ y.block < n) → ∀ x ∈ es ++ l.toArray.map (fun a => (⟨.cell a, b, s⟩ : Event)), x ∈ es ∨ EvO S n x := fun h x hx =>
    (Array.mem_append.1 hx).imp id fun hm => by
      obtain ⟨a, ha, rfl⟩ := Array.mem_map.1 hm
      have := h a (by simpa using ha)
      exact ev_cell this.1 this.2
  revert ht
  induction e with
  | pure a => exact fun ht v w es h => ⟨ht, w, rfl, h, Keep.refl v, fun x hx => .inl hx⟩
  | load m a k ih =>
    intro ht v w es h
    simp only [Sem.runT]
    cases hc : v.cell? a with
    | some x =>
      obtain ⟨h1, h2, h3⟩ := h.cell hc
      simp only [h2]
      exact (ih x (ht x) v w _ h).from (Keep.refl v) (push (ev_cell h1 h3))
    | none =>
      cases hf : v.farLoad P a (m == .atomic) with
      | error x => exact .inl (farLoad_bad hf)
      | ok r =>
        obtain ⟨x, l⟩ := r
        obtain ⟨h1, h2, h3⟩ := farLoad_sim h hf
        simp only [h1, h2]
        exact (ih x (ht x) v w _ h).from (Keep.refl v) (many h3)
  | store m a x k ih =>
    intro ht v w es h
    cases hx : x with
    | agg c => exact .inl trivial
    | tuple c => exact .inl trivial
    | _ =>
      simp only [Sem.runT]
      cases hc : v.cell? a with
      | some y =>
        obtain ⟨h1, h2, h3⟩ := h.cell hc
        simp only [h2, ← h.frozen a]
        split
        · exact .inl trivial
        · exact (ih ht _ _ _ (h.setAt h1 _)).from ⟨rfl, Nat.le_refl _, by simp [World.setCell]⟩ (push (ev_cell h1 (by simpa [World.setCell] using h3)))
      | none =>
        simp only
        split
        · rename_i v' l hf
          obtain ⟨w', h1, h2, h3, h4, h5, h6, h7⟩ := farStore_sim h hf
          simp only [h1, h2]
          exact (ih ht _ _ _ h3).from ⟨h6, by omega, by omega⟩ (many (by rw [h5]; exact h4))
        · rename_i he; exact .inl (farStore_bad he)
  | new o k ih =>
    intro ht v w es h
    simp only [Sem.runT, ← h.size]
    exact (ih _ (ht _) _ _ _ (h.push o)).from ⟨rfl, Nat.le_refl _, by simp⟩ fun x hx => .inl hx
  | shape r k ih =>
    intro ht v w es h
    by_cases hs : S r
    · obtain ⟨t, c, h1, h2⟩ := h.gone _ hs
      have e1 : v.shape? r = some (t, 0) := by simp [World.shape?, h1]
      have e2 : w.shape? r = some (t, c.size) := by simp [World.shape?, h2]
      simp only [Sem.runT, e1, e2]
      rcases ht.2 t c.size with hd | he
      · obtain ⟨x, v', es', hr, hb⟩ := dead_run hd v es
        rw [hr]; exact .inl hb
      · rw [← he]
        exact ih _ (ht.1 _) _ _ _ h
    · have e1 : v.shape? r = w.shape? r := by simp only [World.shape?, h.same _ hs]
      simp only [Sem.runT, ← e1]
      exact ih _ (ht.1 _) _ _ _ h
  | freeze a n k ih => exact fun ht => ht.elim
  | frozen a k ih =>
    intro ht v w es h
    simp only [Sem.runT, ← h.frozen a]
    exact ih _ (ht _) _ _ _ h
  | getObj r k ih =>
    intro ht v w es h
    by_cases hs : S r
    · obtain ⟨t, c, h1, h2⟩ := h.gone _ hs
      simp only [Sem.runT, h1]
      exact .inl trivial
    · simp only [Sem.runT, ← h.same _ hs]
      cases ho : v.heap[r]? with
      | none => exact .inl trivial
      | some o =>
        have hl := (Array.getElem?_eq_some_iff.1 ho).1
        cases o with
        | cells c t f => exact .inl trivial
        | _ => exact (ih _ (ht _) _ _ _ h).from (Keep.refl v) (push (ev_obj hl))
  | setObj r o k ih =>
    intro ht v w es h
    by_cases hs : S r
    · obtain ⟨t, c, h1, h2⟩ := h.gone _ hs
      simp only [Sem.runT, h1]
      exact .inl trivial
    · simp only [Sem.runT, ← h.same _ hs]
      cases ho : v.heap[r]? with
      | none => exact .inl trivial
      | some x =>
        have hl := (Array.getElem?_eq_some_iff.1 ho).1
        cases x with
        | cells c t f => exact .inl trivial
        | _ => exact (ih ht _ _ _ (h.putAt hs o)).from ⟨rfl, Nat.le_refl _, by simp⟩ (push (ev_obj (by simpa using hl)))
  | choose q k ih =>
    intro ht v w es h
    have e1 : q.cut (w.tape w.drawn q) = q.cut (v.tape v.drawn q) := by rw [h.tape, h.drawn]
    simp only [Sem.runT]
    rw [e1]
    split
    · exact ih _ (ht _) _ _ _ h
    · exact (ih _ (ht _) _ _ _ h.drew).from (v := v) ⟨rfl, Nat.le_succ _, Nat.le_refl _⟩ fun x hx => .inl hx
  | sys c k ih => exact fun ht => ht.elim
  | program k ih => exact fun ht v w es h => ih P ht v w es h
  | mark m k ih => exact fun ht v w es h => (ih ht.2 v w _ h).from (Keep.refl v) (push (ev_mark ht.1))
  | halt x =>
    intro ht v w es h
    cases x <;> first | exact ht.elim | exact .inl trivial | exact .inr ⟨⟨_, rfl⟩, w, rfl, h, Keep.refl v, fun x hx => .inl hx⟩
end Go.Proofs.Ytlpfogkfjjbklac.Lift
namespace Go.Proofs.Ytlpfogkfjjbklac.Lift
open Go.Conc
set_option linter.unusedVariables false
set_option linter.unusedSectionVars false
set_option linter.unusedSimpArgs false
variable {P : Program}

def wOf {α : Type} : Result α → World
  | .ok _ w | .halt _ w => w
def reR {α : Type} (τ : Nat → Question → Nat) (d : Nat) : Result α → Result α
  | .ok a w => .ok a (re w τ d)
  | .halt h w => .halt h (re w τ d)
theorem seen_re (p : Program) (v : World) (τ : Nat → Question → Nat) (d : Nat) (a k : Addr) (u : TypeId) (b : Bool) : (re v τ d).seen p a u k b = v.seen p a u k b := rfl
theorem farLoad_re (p : Program) (v : World) (τ : Nat → Question → Nat) (d : Nat) (a : Addr) (b : Bool) : (re v τ d).farLoad p a b = v.farLoad p a b := rfl
theorem viewStore_re (p : Program) (v : World) (τ : Nat → Question → Nat) (d : Nat) (a k : Addr) (u : TypeId) (x : Value) (b : Bool) :
    (re v τ d).viewStore p a u k x b = (v.viewStore p a u k x b).map fun r => (re r.1 τ d, r.2) := by
  unfold World.viewStore
  rw [seen_re]
  simp only [bind, Except.bind, pure, Except.pure, throw, throwThe, MonadExceptOf.throw]
  repeat' (first | rfl | split)
theorem farStore_re (p : Program) (v : World) (τ : Nat → Question → Nat) (d : Nat) (a : Addr) (x : Value) (b : Bool) :
    (re v τ d).farStore p a x b = (v.farStore p a x b).map fun r => (re r.1 τ d, r.2) := by
  unfold World.farStore
  simp only [re_heap]
  split
  · rw [viewStore_re]
    cases v.viewStore p _ _ a x b <;> rfl
  · rfl
theorem viewStore_tape {p : Program} {v v' : World} {a k : Addr} {u : TypeId} {x : Value} {b : Bool} {l : List Addr} (h : v.viewStore p a u k x b = .ok (v', l)) : v'.tape = v.tape ∧ v'.drawn = v.drawn := by
  unfold World.viewStore at h
  simp only [bind, Except.bind, pure, Except.pure, throw, throwThe, MonadExceptOf.throw] at h
  repeat' (first | (cases h; done) | split at h)
  simp only [Except.ok.injEq, Prod.mk.injEq] at h
  rw [← h.1]; exact ⟨rfl, rfl⟩
theorem farStore_tape {p : Program} {v v' : World} {a : Addr} {x : Value} {b : Bool} {l : List Addr} (h : v.farStore p a x b = .ok (v', l)) : v'.tape = v.tape ∧ v'.drawn = v.drawn := by
  unfold World.farStore at h
  split at h
  · split at h
    · rename_i hr; cases h; exact viewStore_tape hr
    · cases h
  · cases h

def one : Value → Bool
  | .agg _ | .tuple _ => false
  | _ => true
theorem runT_store {α : Type} {m : Mode} {a : Addr} {x : Value} {k : Sem α} {v : World} {es : Array Event} (hx : one x = true) : Sem.runT P (.store m a x k) v es =
    match v.cell? a with
    | some _ => if v.frozen? a then (.halt (.unsupported (.unsafePointer "a write to bytes that a string shares")) v, es) else k.runT P (v.setCell a x) (es.push ⟨.cell a, true, m == .atomic⟩)
    | none => match v.farStore P a x (m == .atomic) with
      | .ok (w, touched) => k.runT P w (es ++ touched.toArray.map (⟨.cell ·, true, m == .atomic⟩))
      | .error h => (.halt h v, es) := by
  cases x <;> first | rfl | cases hx

/-- So many answers. -/
def Window {α : Type} (v : World) (r : Result α × Array Event) (run : World → Result α × Array Event) : Prop :=
  ∃ m, (wOf r.1).tape = v.tape ∧ (wOf r.1).drawn = v.drawn + m ∧ ∀ τ d, (∀ i, i < m → τ (d + i) = v.tape (v.drawn + i)) → run (re v τ d) = (reR τ (d + m) r.1, r.2)

theorem tapes {α : Type} {φ : α → Prop} {e : Sem α} (ht : Tame P φ e) : ∀ (v : World) (es : Array Event), Window v (e.runT P v es) (fun u => e.runT P u es) := by
  have stand : ∀ {v : World} {r : Result α × Array Event} {run : World → Result α × Array Event}, (wOf r.1).tape = v.tape → (wOf r.1).drawn = v.drawn → (∀ τ d, run (re v τ d) = (reR τ d r.1, r.2)) → Window v r run := fun h1 h2 h3 =>
    ⟨0, h1, by simpa using h2, fun τ d _ => by simpa using h3 τ d⟩
  have on : ∀ {v v₁ : World} {r : Result α × Array Event} {run run₁ : World → Result α × Array Event}, v₁.tape = v.tape → v₁.drawn = v.drawn → Window v₁ r run₁ → (∀ τ d, run (re v τ d) = run₁ (re v₁ τ d)) → Window v r run := fun h1 h2 ⟨m, a1, a2, a3⟩ h3 =>
    ⟨m, a1.trans h1, by rw [a2, h2], fun τ d hw => by rw [h3]; exact a3 τ d (by rw [h1, h2]; exact hw)⟩
  revert ht
  induction e with
  | pure a => exact fun ht v es => stand rfl rfl fun _ _ => rfl
  | load m a k ih =>
    intro ht v es
    simp only [Sem.runT]
    cases hc : v.cell? a with
    | some x => exact on rfl rfl (ih x (ht x) v _) fun τ d => by rw [show (re v τ d).cell? a = v.cell? a from rfl, hc]
    | none =>
      cases hf : v.farLoad P a (m == .atomic) with
      | error x => exact stand rfl rfl fun τ d => by rw [show (re v τ d).cell? a = v.cell? a from rfl, hc, farLoad_re, hf]; rfl
      | ok r => exact on rfl rfl (ih r.1 (ht r.1) v _) fun τ d => by rw [show (re v τ d).cell? a = v.cell? a from rfl, hc, farLoad_re, hf]
  | store m a x k ih =>
    intro ht v es
    by_cases hx : one x = true
    · simp only [runT_store hx]
      cases hc : v.cell? a with
      | some y =>
        simp only
        by_cases hz : v.frozen? a = true
        · rw [if_pos hz]
          exact stand rfl rfl fun τ d => by rw [show (re v τ d).cell? a = v.cell? a from rfl, hc]; simp only; rw [show (re v τ d).frozen? a = v.frozen? a from rfl, if_pos hz]; rfl
        · rw [if_neg hz]
          exact on (v₁ := v.setCell a x) rfl rfl (ih ht _ _) fun τ d => by rw [show (re v τ d).cell? a = v.cell? a from rfl, hc]; simp only; rw [show (re v τ d).frozen? a = v.frozen? a from rfl, if_neg hz]; rfl
      | none =>
        simp only
        cases hf : v.farStore P a x (m == .atomic) with
        | error y => exact stand rfl rfl fun τ d => by rw [show (re v τ d).cell? a = v.cell? a from rfl, hc, farStore_re, hf]; rfl
        | ok r => exact on (v₁ := r.1) (farStore_tape (l := r.2) hf).1 (farStore_tape (l := r.2) hf).2 (ih ht _ _) fun τ d => by rw [show (re v τ d).cell? a = v.cell? a from rfl, hc, farStore_re, hf]; rfl
    · have e : ∀ u, Sem.runT P (.store m a x k) u es = (.halt (.stuck "store: not the value of one cell") u, es) := fun u => by cases x <;> first | rfl | exact absurd rfl hx
      simp only [e]
      exact stand rfl rfl fun _ _ => rfl
  | new o k ih => exact fun ht v es => on (v₁ := { v with heap := v.heap.push o }) rfl rfl (ih _ (ht _) _ es) fun _ _ => rfl
  | shape r k ih => exact fun ht v es => on rfl rfl (ih _ (ht.1 _) v es) fun _ _ => rfl
  | freeze a n k ih => exact fun ht => ht.elim
  | frozen a k ih => exact fun ht v es => on rfl rfl (ih _ (ht _) v es) fun _ _ => rfl
  | getObj r k ih =>
    intro ht v es
    simp only [Sem.runT]
    cases ho : v.heap[r]? with
    | none => exact stand rfl rfl fun τ d => by rw [re_heap, ho]; rfl
    | some o =>
      cases o with
      | cells c t f => exact stand rfl rfl fun τ d => by rw [re_heap, ho]; rfl
      | _ => exact on rfl rfl (ih _ (ht _) v _) fun τ d => by rw [re_heap, ho]
  | setObj r o k ih =>
    intro ht v es
    simp only [Sem.runT]
    cases ho : v.heap[r]? with
    | none => exact stand rfl rfl fun τ d => by rw [re_heap, ho]; rfl
    | some x =>
      cases x with
      | cells c t f => exact stand rfl rfl fun τ d => by rw [re_heap, ho]; rfl
      | _ => exact on (v₁ := { v with heap := v.heap.setIfInBounds r o }) rfl rfl (ih ht _ _) fun τ d => by rw [re_heap, ho]; rfl
  | choose q k ih =>
    intro ht v es
    simp only [Sem.runT]
    by_cases hq : q.forced = true
    · simp only [hq, if_true]
      exact on rfl rfl (ih _ (ht _) v es) fun _ _ => rfl
    · simp only [hq, if_false, Bool.false_eq_true]
      obtain ⟨m, a1, a2, a3⟩ := ih (q.cut (v.tape v.drawn q)) (ht _) { v with drawn := v.drawn + 1 } es
      refine ⟨m + 1, a1, by rw [a2]; simp only; omega, fun τ d hw => ?_⟩
      have h0 := hw 0 (by omega)
      simp only [Nat.add_zero] at h0
      have := a3 τ (d + 1) (fun i hi => by have := hw (i + 1) (by omega); simp only at this ⊢; rw [show d + 1 + i = d + (i + 1) by omega, show v.drawn + 1 + i = v.drawn + (i + 1) by omega]; exact this)
      simp only [re_tape, re_drawn, h0]
      rw [show d + (m + 1) = d + 1 + m by omega]
      exact this
  | sys c k ih => exact fun ht => ht.elim
  | program k ih => exact fun ht v es => ih P ht v es
  | mark m k ih => exact fun ht v es => on rfl rfl (ih ht.2 v _) fun _ _ => rfl
  | halt x => exact fun ht v es => stand rfl rfl fun _ _ => rfl
end Go.Proofs.Ytlpfogkfjjbklac.Lift
namespace Go.Proofs.Ytlpfogkfjjbklac.Lift
open Go.Conc
set_option linter.unusedVariables false
set_option linter.unusedSectionVars false
set_option linter.unusedSimpArgs false

section
variable (P : Program) (T : FuncId → Prop)
def NextOk : Next → Prop
  | .value _ | .skip => True
  | .enter f _ => T f
  | _ => False
def OpT (o : Oper) : Prop := (∀ c, o.op ≠ .defer c) ∧ ∀ fr : Frame, Tame P (NextOk T) (execOp fr.eval o)
def CodeT : Code → Prop
  | .skip | .label _ | .ret | .exit _ | .refuse _ => True
  | .region _ ops _ => ∀ o ∈ ops, OpT P T o
  | .seq a b | .cond _ a b => CodeT a ∧ CodeT b
  | .block _ c | .loop c => CodeT c
  | _ => False
def ItemT : Item → Prop
  | .code c | .inLoop c => CodeT P T c
  | .inBlock _ => True
  | .inRegion ops _ => ∀ o ∈ ops, OpT P T o
  | _ => False
def ResOk (f : FuncId) : Prop := ∃ fn, P.funcs[f]? = some fn ∧ ∀ tmps, ∃ x, results fn tmps = .pure x
def ResT (f : FuncId) : Prop := ∃ fn, P.funcs[f]? = some fn ∧ ∀ tmps, Tame P (fun _ => True) (results fn tmps)
structure FrT (fr : Frame) : Prop where
  kind : fr.kind = .normal
  defers : fr.defers = []
  round : fr.roundOf = none
  todo : ∀ x ∈ fr.todo, ItemT P T x
  mode : fr.mode = .run ∨ fr.mode = .returning
  fn : ResT P fr.fn
/-- What is asked of the functions. -/
structure Fns : Prop where
  body : ∀ f, T f → ∃ fn c, P.funcs[f]? = some fn ∧ fn.body = some c ∧ CodeT P T c ∧ ∀ tmps, Tame P (fun _ => True) (results fn tmps)
  ahead : P.follows .staticDataAhead = true
  none : ∀ g, P.stepOf g = none
end

variable {P : Program} {T : FuncId → Prop}
theorem exit_sub {id : Nat} : ∀ {k k' : List Item}, exitTo id k = some k' → ∀ x ∈ k', x ∈ k
  | [], k', h => by simp [exitTo] at h
  | y :: k, k', h => by
    cases y with
    | inBlock j =>
      simp only [exitTo] at h
      split at h
      · cases h; exact fun x hx => List.mem_cons_of_mem _ hx
      · exact fun x hx => List.mem_cons_of_mem _ (exit_sub h x hx)
    | _ => simp only [exitTo] at h; exact fun x hx => List.mem_cons_of_mem _ (exit_sub h x hx)
theorem finish_tame {fr : Frame} (h : FrT P T fr) (v : Value) (hr : fr.mode = .run) : FrT P T (fr.finish v) := by
  obtain ⟨fn, tmps, todo, defers, mode, kind, round⟩ := fr
  unfold Frame.finish
  cases todo with
  | nil => exact h
  | cons x k =>
    cases x with
    | inRegion ops l =>
      cases l with
      | nil => exact h
      | cons i rest => exact ⟨h.kind, h.defers, h.round, fun x hx => by
          rcases List.mem_cons.1 hx with rfl | hx
          · exact h.todo (.inRegion ops (i :: rest)) (by simp)
          · exact h.todo x (by simp [hx]), h.mode, h.fn⟩
    | code c => exact h
    | inBlock j => exact h
    | inLoop c => exact h
    | _ => exact False.elim (h.todo _ List.mem_cons_self)
theorem enter_tame (hF : Fns P T) {f : FuncId} (hf : T f) (args : Array Value) : FrT P T (Frame.enter P f args .normal) := by
  obtain ⟨fn, c, h1, h2, h3, h4⟩ := hF.body f hf
  refine ⟨rfl, rfl, rfl, fun x hx => ?_, .inl rfl, ⟨fn, h1, h4⟩⟩
  simp only [Frame.enter, h1, Option.bind_some, h2, Option.getD_some, List.mem_singleton] at hx
  subst hx
  exact h3

/-- A frame is left: its results, which may lie in memory, go to the caller. -/
def retStep (P : Program) (fr : Frame) (e : Sem Value) (c : Frame) (cs : List Frame) (v : World) : GStep :=
  GStep.after (seen P fr.fn (e.runT P v #[]).2) (match (e.runT P v #[]).1 with
    | .ok x w => .go (G (c.finish x) cs) w
    | .halt (.stuck s) w => .ended (.stuck s (fr.pos P)) w
    | .halt _ w => .ended (.stuck "return: the result variables cannot be read" (fr.pos P)) w)
theorem ret_ok {fr : Frame} {e : Sem Value} {c : Frame} {cs : List Frame} {v v' : World} {x : Value} {es : Array Event} (h : e.runT P v #[] = (.ok x v', es)) : retStep P fr e c cs v = .go (G (c.finish x) cs) v' (seen P fr.fn es) := by
  simp only [retStep, h, GStep.after, Array.append_empty]
theorem ret_bad {fr : Frame} {e : Sem Value} {c : Frame} {cs : List Frame} {v v' : World} {x : Halt} {es : Array Event} (h : e.runT P v #[] = (.halt x v', es)) : ∃ o u es', retStep P fr e c cs v = .ended o u es' := by
  cases x <;> exact ⟨_, _, _, by simp only [retStep, h, GStep.after]; rfl⟩
theorem ret_step {fr : Frame} {fn : Func} (hk : fr.kind = .normal) (hd : fr.defers = []) (hm : fr.mode = .returning) (h1 : P.funcs[fr.fn]? = some fn) (c : Frame) (cs : List Frame) (v : World) : stepG P true (G fr (c :: cs)) v = retStep P fr (results fn fr.tmps) c cs v := by
  simp only [G, stepG, hm, unwind, hd, h1, doReturn, hk, retStep]
  generalize (Sem.runT P (results fn fr.tmps) v #[]) = r
  obtain ⟨r, es⟩ := r
  cases r with
  | ok x w => rfl
  | halt x w => cases x <;> rfl
/-- The form of a step. -/
inductive Form (P : Program) (T : FuncId → Prop) (fr : Frame) (fs : List Frame) : Prop
  | ctl (fr' : Frame) : FrT P T fr' → (∀ tl v, stepG P true (G fr (fs ++ tl)) v = .go (G fr' (fs ++ tl)) v #[]) → Form P T fr fs
  | draw (q : Question) (F : Nat → Frame) : (∀ t, FrT P T (F t)) → q.forced = false → (∀ t, q.cut t = t) → (∀ tl v, stepG P true (G fr (fs ++ tl)) v = .go (G (F (v.tape v.drawn q)) (fs ++ tl)) { v with drawn := v.drawn + 1 } #[]) → Form P T fr fs
  | op (e : Sem Next) : Tame P (NextOk T) e → fr.mode = .run → (∀ d w r s, fr.todo ≠ .call d w r s :: []) → (∀ tl v, stepG P true (G fr (fs ++ tl)) v = stepG.apply P true fr (fs ++ tl) none e v) → Form P T fr fs
  | back (c : Frame) (fs' : List Frame) (e : Sem Value) : fs = c :: fs' → Tame P (fun _ => True) e → (∀ tl v, stepG P true (G fr (fs ++ tl)) v = retStep P fr e c (fs' ++ tl) v) → Form P T fr fs
  | base : fs = [] → fr.mode = .returning → Form P T fr fs
  | lost : (∀ tl v, ∃ o u, stepG P true (G fr (fs ++ tl)) v = .ended o u #[]) → Form P T fr fs

theorem form (hF : Fns P T) {fr : Frame} {fs : List Frame} (h : FrT P T fr) : Form P T fr fs := by
  obtain ⟨fn, tmps, todo, defers, mode, kind, round⟩ := fr
  have hk : kind = .normal := h.kind
  have hd : defers = [] := h.defers
  have hr : round = none := h.round
  subst hk hd hr
  rcases h.mode with hm | hm
  · have hm' : mode = .run := hm
    subst hm'
    have tail : ∀ {x : Item} {k : List Item}, todo = x :: k → ∀ y ∈ k, ItemT P T y := fun e y hy => h.todo y (by show y ∈ todo; rw [e]; simp [hy])
    have mk : ∀ {l : List Item}, (∀ y ∈ l, ItemT P T y) → FrT P T ⟨fn, tmps, l, [], .run, .normal, none⟩ := fun hl => ⟨rfl, rfl, rfl, hl, .inl rfl, h.fn⟩
    cases todo with
    | nil => exact .ctl ⟨fn, tmps, [], [], .returning, .normal, none⟩ ⟨rfl, rfl, rfl, h.todo, .inr rfl, h.fn⟩ fun tl v => by simp [G, stepG, stepG.exec]
    | cons x k =>
      have hx := h.todo x List.mem_cons_self
      have ht := tail rfl
      cases x with
      | inBlock j => exact .ctl _ (mk ht) fun tl v => by simp [G, stepG, stepG.exec]
      | inLoop c => exact .ctl _ (mk (l := .code c :: .inLoop c :: k) fun y hy => by
          simp only [List.mem_cons] at hy
          rcases hy with rfl | rfl | hy
          · exact hx
          · exact hx
          · exact ht y hy) fun tl v => by simp [G, stepG, stepG.exec]
      | inRegion ops l =>
        cases l with
        | nil => exact .ctl _ (mk ht) fun tl v => by simp [G, stepG, stepG.exec]
        | cons i rest =>
          cases hw : ((ops[i]?).map (Region.wanted · (yielded ops tmps))).getD false with
          | false => exact .ctl _ (finish_tame h undef rfl) fun tl v => by simp [G, stepG, stepG.exec, hw]
          | true =>
            cases ho : ops[i]? with
            | none => simp [ho] at hw
            | some o =>
              have hop := hx o (Array.mem_of_getElem? ho)
              refine .op (execOp (Frame.eval ⟨fn, tmps, .inRegion ops (i :: rest) :: k, [], .run, .normal, none⟩) o) (hop.2 _) rfl (by simp) fun tl v => ?_
              have hw' : Region.wanted o (yielded ops tmps) = true := by simpa [ho] using hw
              simp only [G, stepG, stepG.exec, ho, Option.map_some, Option.getD_some, hw', if_true, stepG.oper, Frame.oper?]
      | code c =>
        cases c with
        | skip => exact .ctl _ (mk ht) fun tl v => by simp [G, stepG, stepG.exec]
        | label l => exact .ctl _ (mk ht) fun tl v => by simp [G, stepG, stepG.exec]
        | ret => exact .ctl ⟨fn, tmps, .code .ret :: k, [], .returning, .normal, none⟩ ⟨rfl, rfl, rfl, h.todo, .inr rfl, h.fn⟩ fun tl v => by simp [G, stepG, stepG.exec]
        | region id ops dr =>
          cases dr with
          | false => exact .ctl _ (mk (l := .inRegion ops (List.range ops.size) :: k) fun y hy => by
              simp only [List.mem_cons] at hy
              rcases hy with rfl | hy
              · exact hx
              · exact ht y hy) fun tl v => by simp [G, stepG, stepG.exec]
          | true => exact .draw (.order fn id) (fun t => ⟨fn, tmps, .inRegion ops (Region.schedule (P.follows .mixedOrders) ops t) :: k, [], .run, .normal, none⟩) (fun t => mk fun y hy => by
              simp only [List.mem_cons] at hy
              rcases hy with rfl | hy
              · exact hx
              · exact ht y hy) rfl (fun _ => rfl) fun tl v => by simp [G, stepG, stepG.exec, choose, Sem.run, Question.forced, Question.cut]
        | seq a b => exact .ctl _ (mk (l := .code a :: .code b :: k) fun y hy => by
            simp only [List.mem_cons] at hy
            rcases hy with rfl | rfl | hy
            · exact hx.1
            · exact hx.2
            · exact ht y hy) fun tl v => by simp [G, stepG, stepG.exec]
        | cond c a b =>
          cases hc : Frame.eval ⟨fn, tmps, .code (.cond c a b) :: k, [], .run, .normal, none⟩ c with
          | bool t => exact .ctl _ (mk (l := .code (if t then a else b) :: k) fun y hy => by
              simp only [List.mem_cons] at hy
              rcases hy with rfl | hy
              · cases t
                · exact hx.2
                · exact hx.1
              · exact ht y hy) fun tl v => by simp [G, stepG, stepG.exec, hc]
          | _ => exact .lost fun tl v => by simp [G, stepG, stepG.exec, hc]
        | block id c => exact .ctl _ (mk (l := .code c :: .inBlock id :: k) fun y hy => by
            simp only [List.mem_cons] at hy
            rcases hy with rfl | rfl | hy
            · exact hx
            · trivial
            · exact ht y hy) fun tl v => by simp [G, stepG, stepG.exec]
        | loop c => exact .ctl _ (mk (l := .code c :: .inLoop c :: k) fun y hy => by
            simp only [List.mem_cons] at hy
            rcases hy with rfl | rfl | hy
            · exact hx
            · exact hx
            · exact ht y hy) fun tl v => by simp [G, stepG, stepG.exec]
        | exit id =>
          cases he : exitTo id k with
          | some k' => exact .ctl _ (mk (l := k') fun y hy => ht y (exit_sub he y hy)) fun tl v => by simp [G, stepG, stepG.exec, he]
          | none => exact .lost fun tl v => by simp [G, stepG, stepG.exec, he]
        | refuse why => exact .lost fun tl v => by simp [G, stepG, stepG.exec]
        | _ => exact hx.elim
      | _ => exact False.elim hx
  · have hm' : mode = .returning := hm
    subst hm'
    cases fs with
    | nil => exact .base rfl rfl
    | cons c fs' =>
      obtain ⟨f, h1, h4⟩ := h.fn
      exact .back c fs' (results f tmps) rfl (h4 tmps) fun tl v => ret_step rfl rfl rfl h1 c (fs' ++ tl) v
end Go.Proofs.Ytlpfogkfjjbklac.Lift
namespace Go.Proofs.Ytlpfogkfjjbklac.Lift
open Go.Conc
set_option linter.unusedVariables false
set_option linter.unusedSectionVars false
set_option linter.unusedSimpArgs false
variable {P : Program} {T : FuncId → Prop} {S : Nat → Prop}

theorem mem_seen {fn : FuncId} {es : Array Event} {x : Event} (h : x ∈ seen P fn es) : x ∈ es := by
  have key : ∀ (l : List Event) (f : Bool × Array Event → Event → Bool × Array Event), (∀ a e y, y ∈ (f a e).2 → y ∈ a.2 ∨ y = e) → ∀ a, ∀ y ∈ (l.foldl f a).2, y ∈ a.2 ∨ y ∈ l := by
    intro l f hf
    induction l with
    | nil => exact fun a y hy => .inl hy
    | cons e l ih =>
      intro a y hy
      rcases ih (f a e) y hy with h1 | h1
      · rcases hf a e y h1 with h2 | h2
        · exact .inl h2
        · exact .inr (by simp [h2])
      · exact .inr (by simp [h1])
  dsimp only [seen] at h
  rw [← Array.foldl_toList] at h
  have := key es.toList _ (fun a e y hy => ?_) _ x h
  · simpa using this
  · obtain ⟨q, kept⟩ := a
    dsimp only at hy
    split at hy
    · exact .inl hy
    · dsimp only at hy
      split at hy
      · exact .inl hy
      · exact (Array.mem_push.1 hy).imp id id

/-- What becomes of the frame. -/
def after (fr : Frame) (cs : List Frame) : Next → Goroutine
  | .value x => G (fr.finish x) cs
  | .enter f a => G (Frame.enter P f a .normal) (fr :: cs)
  | _ => G (fr.finish undef) cs
/-- An ordinary frame. -/
structure Plain (fr : Frame) : Prop where
  kind : fr.kind = .normal
  todo : ∀ d b r s k, fr.todo ≠ .call d b r s :: k
theorem FrT.plain {fr : Frame} (h : FrT P T fr) : Plain fr := ⟨h.kind, fun d b r s k e => h.todo (.call d b r s) (by rw [e]; exact List.mem_cons_self)⟩
theorem apply_ok {fr : Frame} {cs : List Frame} {e : Sem Next} {v v' : World} {es : Array Event} {n : Next} (h : Plain fr) (hn : NextOk T n) (hr : e.runT P v #[] = (.ok n v', es)) :
    stepG.apply P true fr cs none e v = .go (after (P := P) fr cs n) v' (seen P fr.fn es) := by
  have hk2 : (fr.kind == CallKind.early) = false := by rw [h.kind]; rfl
  cases n with
  | value x => simp only [stepG.apply, if_true, hr, hk2, Bool.false_eq_true, if_false, GStep.after, after, G, Array.append_empty]
  | skip => simp only [stepG.apply, if_true, hr, hk2, Bool.false_eq_true, if_false, GStep.after, after, G, Array.append_empty]
  | enter f a =>
    simp only [stepG.apply, if_true, hr, hk2, Bool.false_eq_true, if_false, GStep.after, after, G, Array.append_empty]
    split
    · rename_i e'
      exact absurd e' (h.todo _ _ _ _ _)
    · rfl
  | _ => exact hn.elim
theorem apply_panic {fr : Frame} {cs : List Frame} {e : Sem Next} {v v' : World} {es : Array Event} {x : Value} (h : Plain fr) (hr : e.runT P v #[] = (.halt (.panic x) v', es)) :
    stepG.apply P true fr cs none e v = .go (G (fr.raise [{ v := x, recovered := false }]) cs) v' (seen P fr.fn es) := by
  have hk2 : (fr.kind == CallKind.early) = false := by rw [h.kind]; rfl
  simp only [stepG.apply, if_true, hr, hk2, Bool.false_eq_true, if_false, GStep.after, G, Array.append_empty]
/-- The events of a step that ends the run. -/
def badEs (es : Array Event) : Halt → Array Event
  | .unsupported (.initOrder _) => #[]
  | _ => es
theorem apply_bad (hF : Fns P T) {fr : Frame} {cs : List Frame} {e : Sem Next} {v v' : World} {es : Array Event} {x : Halt} (h : Plain fr) (hb : Bad x) (hr : e.runT P v #[] = (.halt x v', es)) :
    ∃ o u, stepG.apply P true fr cs none e v = .ended o u (seen P fr.fn (badEs es x)) := by
  have hk2 : (fr.kind == CallKind.early) = false := by rw [h.kind]; rfl
  cases x <;> first | exact hb.elim | skip
  · rename_i u
    cases u <;> first
      | exact ⟨_, _, by simp only [stepG.apply, hr, hk2, if_true, if_false, Bool.false_eq_true, GStep.after, Array.append_empty, badEs]; rfl⟩
      | exact ⟨_, _, by simp only [stepG.apply, hr, hk2, if_true, if_false, Bool.false_eq_true, Bool.not_true, GStep.after, early, hF.ahead, hF.none, Array.append_empty, badEs]; rfl⟩
  · exact ⟨_, _, by simp only [stepG.apply, hr, hk2, if_true, if_false, Bool.false_eq_true, GStep.after, Array.append_empty, badEs]; rfl⟩

/-! ### a stack of tame frames -/
/-- The frame at the foot: who unwinds into it is lost. -/
def c0 : Frame := { fn := 0, tmps := #[], todo := [.code (.refuse "")], defers := [{ target := .nil, args := #[] }], mode := .run, kind := .normal }
structure St (P : Program) (T : FuncId → Prop) (fr : Frame) (fs : List Frame) : Prop where
  top : FrT P T fr
  up : ∀ f ∈ fs, FrT P T f ∧ f.mode = .run
def Panics (g : Goroutine) : Prop := (∃ fr fs chain, g = G fr (fs ++ [c0]) ∧ fr.mode = .panicking chain ∧ fr.defers = [] ∧ ∀ f ∈ fs, f.defers = []) ∨ ∃ chain, g = G { c0 with mode := .panicking chain } []

theorem after_st (hF : Fns P T) {fr : Frame} {fs : List Frame} (h : St P T fr fs) (hr : fr.mode = .run) {n : Next} (hn : NextOk T n) : ∃ fr' fs', St P T fr' fs' ∧ ∀ tl, after (P := P) fr (fs ++ tl) n = G fr' (fs' ++ tl) := by
  cases n with
  | value x => exact ⟨_, fs, ⟨finish_tame h.top x hr, h.up⟩, fun _ => rfl⟩
  | skip => exact ⟨_, fs, ⟨finish_tame h.top undef hr, h.up⟩, fun _ => rfl⟩
  | enter f a => exact ⟨_, fr :: fs, ⟨enter_tame hF hn a, fun x hx => by
      rcases List.mem_cons.1 hx with rfl | hx
      · exact ⟨h.top, hr⟩
      · exact h.up x hx⟩, fun _ => rfl⟩
  | _ => exact hn.elim

end Go.Proofs.Ytlpfogkfjjbklac.Lift
namespace Go.Proofs.Ytlpfogkfjjbklac.Lift
open Go.Conc
set_option linter.unusedVariables false
set_option linter.unusedSectionVars false
set_option linter.unusedSimpArgs false
variable {P : Program} {T : FuncId → Prop}

/-- Whatever the tape gives at each step, the stop is reached. -/
inductive Tree (P : Program) (Stop : Goroutine → World → Prop) : Goroutine → World → Prop
  | stop {g : Goroutine} {v : World} : Stop g v → Tree P Stop g v
  | step {g : Goroutine} {v : World} (f : (Nat → Question → Nat) → Nat → Goroutine × World) : (∀ τ d, ∃ es, stepG P true g (re v τ d) = .go (f τ d).1 (f τ d).2 es) → (∀ τ d, Tree P Stop (f τ d).1 (f τ d).2) → Tree P Stop g v

/-! ### the lone machine -/
def loneOf (g : Goroutine) (w : World) : Machine := { world := w, gs := #[g], rest := { timers := #[], alone := none, slice := none } }
/-- Tame places, and those among them at which one stops. -/
structure Land (P : Program) where
  ts : Goroutine → Prop
  fin : Goroutine → Prop
  form : ∀ g, ts g → ∃ fr cs, g = G fr cs
  go : ∀ g v, ts g → ¬ fin g → (∃ m, ∀ τ d, (∀ i, i < m → τ (d + i) = v.tape (v.drawn + i)) → ∃ o u es, stepG P true g (re v τ d) = .ended o u es) ∨
    ∃ g' v' es m, stepG P true g v = .go g' v' es ∧ v'.tape = v.tape ∧ v'.drawn = v.drawn + m ∧ (ts g' ∨ Panics g') ∧ ∀ τ d, (∀ i, i < m → τ (d + i) = v.tape (v.drawn + i)) → stepG P true g (re v τ d) = .go g' (re v' τ (d + m)) es
  calm : ∀ g, fin g → ¬ Panics g
  never : ∀ g v n g' v', ts g → fin g → runN P (n + 1) (loneOf g v) = .next (loneOf g' v') → ¬ fin g'
variable {A : Land P}
def Base (A : Land P) (R : Goroutine → World → Prop) (g : Goroutine) (v : World) : Prop := A.fin g ∧ R g v

theorem panics_step {g : Goroutine} {v : World} (h : Panics g) : (∃ o u es, stepG P true g v = .ended o u es) ∨ ∃ g' es, stepG P true g v = .go g' v es ∧ Panics g' := by
  rcases h with ⟨fr, fs, chain, rfl, hm, hd, hf⟩ | ⟨chain, rfl⟩
  · cases hc : fr.catches P with
    | true => exact .inl ⟨_, _, _, by simp only [G, stepG, hm, unwind, hd, hc, if_true]; rfl⟩
    | false =>
      cases fs with
      | nil => exact .inr ⟨_, _, by simp only [G, stepG, hm, unwind, hd, hc, Bool.false_eq_true, if_false, List.nil_append]; rfl, .inr ⟨chain, rfl⟩⟩
      | cons c fs =>
        refine .inr ⟨G (c.raise chain) (fs ++ [c0]), _, by simp only [G, stepG, hm, unwind, hd, hc, Bool.false_eq_true, if_false, List.cons_append]; rfl, .inl ?_⟩
        have hcd := hf c List.mem_cons_self
        cases hcm : c.mode with
        | panicking ch => exact ⟨_, fs, chain ++ ch, rfl, by simp only [Frame.raise, hcm], by simp only [Frame.raise, hcm]; exact hcd, fun f hf' => hf f (List.mem_cons_of_mem _ hf')⟩
        | run => exact ⟨_, fs, chain, rfl, by simp only [Frame.raise, hcm], by simp only [Frame.raise, hcm]; exact hcd, fun f hf' => hf f (List.mem_cons_of_mem _ hf')⟩
        | returning => exact ⟨_, fs, chain, rfl, by simp only [Frame.raise, hcm], by simp only [Frame.raise, hcm]; exact hcd, fun f hf' => hf f (List.mem_cons_of_mem _ hf')⟩
  · exact .inl ⟨_, _, _, by simp only [G, stepG, c0, unwind, callDeferred]; rfl⟩
theorem panics_base {R : Goroutine → World → Prop} {g : Goroutine} {v : World} (h : Panics g) : ¬ Base A R g v := fun hb => A.calm g hb.1 h
theorem panics_tree {R : Goroutine → World → Prop} {g : Goroutine} {v : World} (h : Panics g) : ¬ Tree P (Base A R) g v := by
  intro ht
  induction ht with
  | stop hs => exact panics_base h hs
  | @step g v f h1 h2 ih =>
    obtain ⟨es, he⟩ := h1 v.tape v.drawn
    rw [re_self] at he
    rcases panics_step (P := P) (v := v) h with ⟨o, u, es', he'⟩ | ⟨g', es', he', hp⟩
    · rw [he] at he'; cases he'
    · rw [he] at he'
      have e1 : (f v.tape v.drawn).1 = g' := by injection he'
      exact ih v.tape v.drawn (by rw [e1]; exact hp)

theorem step_go {fr fr' : Frame} {cs cs' : List Frame} {w w' : World} {es : Array Event} (h : stepG P true (G fr cs) w = .go (G fr' cs') w' es) : step P (loneOf (G fr cs) w) = .next (loneOf (G fr' cs') w') :=
  step_lone_go (by
    show (stepG P true (G fr cs) w).bare = _
    rw [h]; rfl)
theorem step_end {fr : Frame} {cs : List Frame} {w w' : World} {es : Array Event} {o : Outcome} (h : stepG P true (G fr cs) w = .ended o w' es) : step P (loneOf (G fr cs) w) = .ended o w' :=
  step_lone_ended (by
    show (stepG P true (G fr cs) w).bare = _
    rw [h]; rfl)
theorem step_go' {g g' : Goroutine} {w w' : World} {es : Array Event} (h1 : A.ts g) (h2 : A.ts g') (h : stepG P true g w = .go g' w' es) : step P (loneOf g w) = .next (loneOf g' w') := by
  obtain ⟨fr, cs, rfl⟩ := A.form g h1
  obtain ⟨fr', cs', rfl⟩ := A.form g' h2
  exact step_go h
theorem panics_form {g : Goroutine} (h : Panics g) : ∃ fr cs, g = G fr cs := by
  rcases h with ⟨fr, fs, chain, rfl, _⟩ | ⟨chain, rfl⟩ <;> exact ⟨_, _, rfl⟩
/-- Who panics never comes to the stop. -/
theorem panics_never {R : Goroutine → World → Prop} : ∀ (n : Nat) {g : Goroutine} {v : World} {g' : Goroutine} {v' : World}, Panics g → runN P n (loneOf g v) = .next (loneOf g' v') → ¬ Base A R g' v'
  | 0, g, v, g', v', h, hr => by
    simp only [runN, Stepped.next.injEq] at hr
    have e : g = g' := by have := congrArg Machine.gs hr; simpa [loneOf] using this
    subst e
    exact panics_base h
  | n + 1, g, v, g', v', h, hr => by
    obtain ⟨fr, cs, rfl⟩ := panics_form h
    rcases panics_step (P := P) (v := v) h with ⟨o, u, es', he⟩ | ⟨g₁, es', he, hp⟩
    · simp only [runN, step_end he] at hr; cases hr
    · obtain ⟨fr₁, cs₁, rfl⟩ := panics_form hp
      simp only [runN, step_go he] at hr
      exact panics_never n hp hr
/-! ### all that may come -/
/-- A place from which the stop might be missed. -/
structure Nd (A : Land P) (R : Goroutine → World → Prop) where
  g : Goroutine
  v : World
  ts : A.ts g
  nt : ¬ Tree P (Base A R) g v
/-- What comes next, on a tape that gives these answers. -/
structure Nxt {R : Goroutine → World → Prop} (x : Nd A R) where
  τ : Nat → Question → Nat
  d : Nat
  m : Nat
  out : Option (Nd A R)
  here : ∀ τ' d', (∀ i, i < m → τ' (d' + i) = τ (d + i)) → match out with
    | none => (∃ o u es, stepG P true x.g (re x.v τ' d') = .ended o u es) ∨ (∃ g' u es, stepG P true x.g (re x.v τ' d') = .go g' u es ∧ Panics g')
    | some y => ∃ es, stepG P true x.g (re x.v τ' d') = .go y.g (re y.v τ' (d' + m)) es
theorem Nd.next {R : Goroutine → World → Prop} (x : Nd A R) (hb : ¬ A.fin x.g) : Nonempty (Nxt x) := by
  have : ∃ τ d, ¬ ∃ g1 v1, (∃ es, stepG P true x.g (re x.v τ d) = .go g1 v1 es) ∧ Tree P (Base A R) g1 v1 := by
    refine Classical.byContradiction fun hn => x.nt ?_
    have hn' : ∀ τ d, ∃ y : Goroutine × World, (∃ es, stepG P true x.g (re x.v τ d) = .go y.1 y.2 es) ∧ Tree P (Base A R) y.1 y.2 := fun τ d => by
      refine Classical.byContradiction fun h => hn ⟨τ, d, fun ⟨g1, v1, h1, h2⟩ => h ⟨(g1, v1), h1, h2⟩⟩
    exact .step (fun τ d => (hn' τ d).choose) (fun τ d => (hn' τ d).choose_spec.1) (fun τ d => (hn' τ d).choose_spec.2)
  obtain ⟨τ, d, hno⟩ := this
  rcases A.go x.g (re x.v τ d) x.ts hb with ⟨m, hm⟩ | ⟨g', v', es, m, hgo, h1, h2, h | h, h3⟩
  · exact ⟨⟨τ, d, m, none, fun τ' d' hw => .inl (hm τ' d' hw)⟩⟩
  · exact ⟨⟨τ, d, m, some ⟨g', v', h, fun ht => hno ⟨g', v', ⟨es, hgo⟩, ht⟩⟩, fun τ' d' hw => ⟨es, h3 τ' d' hw⟩⟩⟩
  · exact ⟨⟨τ, d, m, none, fun τ' d' hw => .inr ⟨g', _, es, h3 τ' d' hw, h⟩⟩⟩

section
variable {R : Goroutine → World → Prop}
open Classical in
/-- What comes, or nothing at a place where the stop is missed for good. -/
noncomputable def nx (x : Nd A R) : Option (Nxt x) := if hb : A.fin x.g then none else some (Classical.choice (x.next hb))
noncomputable def path (x0 : Nd A R) : Nat → Option (Nd A R)
  | 0 => some x0
  | k + 1 => (path x0 k).bind fun x => (nx x).bind (·.out)
noncomputable def used (x0 : Nd A R) (k : Nat) : Nat := match path x0 k with
  | none => 0
  | some x => match nx x with | none => 0 | some y => y.m
noncomputable def pos (x0 : Nd A R) : Nat → Nat
  | 0 => 0
  | k + 1 => pos x0 k + used x0 k
theorem pos_mono (x0 : Nd A R) {a b : Nat} (h : a ≤ b) : pos x0 a ≤ pos x0 b := by
  induction h with
  | refl => exact Nat.le_refl _
  | step _ ih => exact Nat.le_trans ih (Nat.le_add_right _ _)
open Classical in
/-- The tape that gives each step the answers that it is to have. -/
noncomputable def tape (x0 : Nd A R) (i : Nat) : Question → Nat :=
  if h : ∃ k, pos x0 k ≤ i ∧ i < pos x0 (k + 1) then
    match path x0 h.choose with
    | none => fun _ => 0
    | some x => match nx x with | none => fun _ => 0 | some y => y.τ (y.d + (i - pos x0 h.choose))
  else fun _ => 0
theorem tape_at (x0 x : Nd A R) (y : Nxt x) {k i : Nat} (hp : path x0 k = some x) (hy : nx x = some y) (hi : i < y.m) : tape x0 (pos x0 k + i) = y.τ (y.d + i) := by
  have hu : used x0 k = y.m := by unfold used; rw [hp]; simp only [hy]
  have hex : ∃ k', pos x0 k' ≤ pos x0 k + i ∧ pos x0 k + i < pos x0 (k' + 1) := ⟨k, Nat.le_add_right _ _, by show _ < pos x0 k + used x0 k; omega⟩
  have hk : hex.choose = k := by
    obtain ⟨h1, h2⟩ := hex.choose_spec
    rcases Nat.lt_trichotomy hex.choose k with hlt | heq | hgt
    · have := pos_mono x0 (show hex.choose + 1 ≤ k by omega); omega
    · exact heq
    · have := pos_mono x0 (show k + 1 ≤ hex.choose by omega)
      have e : pos x0 (k + 1) = pos x0 k + used x0 k := rfl
      omega
  unfold tape
  rw [dif_pos hex]
  simp only [hk, hp, hy]
  congr 1
  omega
/-- On that tape the lone machine goes that way. -/
theorem path_run (x0 : Nd A R) : ∀ (k : Nat) (x : Nd A R), path x0 k = some x → runN P k (loneOf x0.g (re x0.v (tape x0) 0)) = .next (loneOf x.g (re x.v (tape x0) (pos x0 k)))
  | 0, x, h => by
    simp only [path, Option.some.injEq] at h
    subst h; rfl
  | k + 1, x, h => by
    simp only [path] at h
    obtain ⟨y, hy, hxy⟩ := Option.bind_eq_some_iff.1 h
    obtain ⟨z, hz, hzo⟩ := Option.bind_eq_some_iff.1 hxy
    have ih := path_run x0 k y hy
    have hh := z.here (tape x0) (pos x0 k) (fun i hi => tape_at x0 y z hy hz hi)
    rw [hzo] at hh
    obtain ⟨es, he⟩ := hh
    have hu : used x0 k = z.m := by unfold used; rw [hy]; simp only [hz]
    rw [runN_add, ih]
    simp only [runN]
    rw [show step P (loneOf y.g (re y.v (tape x0) (pos x0 k))) = .next (loneOf x.g (re x.v (tape x0) (pos x0 k + z.m))) from step_go' y.ts x.ts he]
    simp only [pos, hu]
end

/-- What ends well alone on every tape: the tree. -/
theorem bar {R : Goroutine → World → Prop} (hR : ∀ g v τ d, R g (re v τ d) → R g v) {g : Goroutine} {v : World} (hts : A.ts g)
    (hrun : ∀ τ, ∃ n g' v', runN P n (loneOf g (re v τ 0)) = .next (loneOf g' v') ∧ A.fin g' ∧ R g' v') : Tree P (Base A R) g v := by
  refine Classical.byContradiction fun hnt => ?_
  let x0 : Nd A R := ⟨g, v, hts, hnt⟩
  obtain ⟨n, g', v', hr, hm, hR'⟩ := hrun (tape x0)
  have stop : Base A R g' v' := ⟨hm, hR'⟩
  cases hp : path x0 n with
  | some x =>
    have := path_run x0 n x hp
    have e : loneOf x.g (re x.v (tape x0) (pos x0 n)) = loneOf g' v' := by
      have h2 : runN P n (loneOf x0.g (re x0.v (tape x0) 0)) = .next (loneOf g' v') := hr
      rw [this] at h2; exact Stepped.next.inj h2
    have eg : x.g = g' := by have := congrArg Machine.gs e; simpa [loneOf] using this
    have ev : re x.v (tape x0) (pos x0 n) = v' := congrArg Machine.world e
    exact x.nt (.stop ⟨by rw [eg]; exact hm, hR x.g x.v (tape x0) (pos x0 n) (by rw [ev, eg]; exact hR')⟩)
  | none =>
    obtain ⟨k, x, hk, hx, hnone⟩ : ∃ k x, k < n ∧ path x0 k = some x ∧ path x0 (k + 1) = none := by
      have key : ∀ n, path x0 n = none → ∃ k x, k < n ∧ path x0 k = some x ∧ path x0 (k + 1) = none := by
        intro n
        induction n with
        | zero => intro h; simp [path] at h
        | succ n ih =>
          intro h
          cases hq : path x0 n with
          | none => obtain ⟨k, x, h1, h2⟩ := ih hq; exact ⟨k, x, by omega, h2⟩
          | some x => exact ⟨n, x, by omega, hq, h⟩
      exact key n hp
    have hrk := path_run x0 k x hx
    obtain ⟨j, rfl⟩ : ∃ j, n = k + (j + 1) := ⟨n - k - 1, by omega⟩
    have hrest : runN P (j + 1) (loneOf x.g (re x.v (tape x0) (pos x0 k))) = .next (loneOf g' v') := by
      have h2 : runN P (k + (j + 1)) (loneOf x0.g (re x0.v (tape x0) 0)) = .next (loneOf g' v') := hr
      rw [runN_add, hrk] at h2; exact h2
    by_cases hb : A.fin x.g
    · exact A.never _ _ _ _ _ x.ts hb hrest hm
    · obtain ⟨z, hz⟩ : ∃ z, nx x = some z := ⟨_, by unfold nx; rw [dif_neg hb]⟩
      have hout : z.out = none := by simp only [path, hx, Option.bind_some, hz] at hnone; exact hnone
      have hh := z.here (tape x0) (pos x0 k) (fun i hi => tape_at x0 x z hx hz hi)
      rw [hout] at hh
      obtain ⟨fr, cs, hg⟩ := A.form x.g x.ts
      rcases hh with ⟨o, u, es, he⟩ | ⟨g₁, u, es, he, hpn⟩
      · rw [hg] at he hrest
        simp only [runN, step_end he] at hrest
        cases hrest
      · obtain ⟨fr₁, cs₁, rfl⟩ := panics_form hpn
        rw [hg] at he hrest
        simp only [runN, step_go he] at hrest
        exact panics_never (A := A) (R := R) j hpn hrest stop
end Go.Proofs.Ytlpfogkfjjbklac.Lift
