/-
  Two worlds that part in blocks that nobody may touch: an operation that ends well in the one does the same in the other. Two tapes that give the same answers: it does the same.
-/
import Derived.Test.YtadngncbbbbapaaTame
namespace Go.Proofs.Ytadngncbbbbapaa.Lift
open Go.Conc
set_option linter.unusedVariables false
set_option linter.unusedSectionVars false
set_option linter.unusedSimpArgs false
variable {P : Program} {S : Nat → Prop} {v w : World}

theorem seenCells_empty {p : Program} {e : TypeId} {n x stop : Nat} (h : x < stop) : ∃ why, seenCells p #[] e (n + 1) x stop = .error why := by
  unfold seenCells
  rw [if_neg (by omega)]
  simp only
  split
  · exact ⟨_, rfl⟩
  · split
    · exact ⟨_, rfl⟩
    · simp

theorem seen_sim {p : Program} {a k : Addr} {u : TypeId} {b : Bool} (h : Sim S v w) : (¬ S a.block ∧ v.seen p a u k b = w.seen p a u k b) ∨ (∃ why, v.seen p a u k b = .error why) := by
  by_cases hs : S a.block
  · refine .inr ?_
    obtain ⟨t, c, h1, _⟩ := h.gone _ hs
    unfold World.seen
    simp only [h1]
    by_cases h0 : (k.spot.isSome || a.spot.isSome) = true
    · simp only [h0, if_true]; exact ⟨_, rfl⟩
    · simp only [h0, if_false, Bool.false_eq_true]
      cases hp : plainCell p p.depth u k.off with
      | none => exact ⟨_, rfl⟩
      | some like =>
        obtain ⟨n, hn⟩ := plain_bytes _ hp
        simp only [hn]
        cases hb : byteOfCell p p.depth u k.off with
        | none => exact ⟨_, rfl⟩
        | some β =>
          simp only
          by_cases hz : p.cellsOf t = 0
          · simp only [hz, if_true]; exact ⟨_, rfl⟩
          · simp only [hz, if_false]
            cases hc : byteOfCell p p.depth t (a.off % p.cellsOf t) with
            | none => exact ⟨_, rfl⟩
            | some b0 =>
              obtain ⟨why, hw⟩ := seenCells_empty (p := p) (e := t) (n := n + 1) (x := a.off / p.cellsOf t * p.bytesOf t + b0 + β) (stop := a.off / p.cellsOf t * p.bytesOf t + b0 + β + (n + 1)) (by omega)
              exact ⟨why, by simp only [bind, Except.bind, pure, Except.pure]; rw [hw]⟩
  · exact .inl ⟨hs, by unfold World.seen; rw [h.same _ hs]⟩

theorem seen_none {p : Program} {a k : Addr} {u : TypeId} {b : Bool} (h1 : v.heap[a.block]? = none) : ∃ why, v.seen p a u k b = .error why := by
  unfold World.seen
  simp only [h1]
  by_cases h0 : (k.spot.isSome || a.spot.isSome) = true
  · simp only [h0, if_true]; exact ⟨_, rfl⟩
  · simp only [h0, if_false, Bool.false_eq_true]
    cases hp : plainCell p p.depth u k.off with
    | none => exact ⟨_, rfl⟩
    | some like =>
      simp only
      cases hl : like.bytes?.map (·.length) with
      | none => exact ⟨_, rfl⟩
      | some n =>
        simp only
        cases hb : byteOfCell p p.depth u k.off with
        | none => exact ⟨_, rfl⟩
        | some β => exact ⟨_, rfl⟩

theorem viewLoad_sim {p : Program} {a k : Addr} {u : TypeId} {b : Bool} {x : Value} {l : List Addr} (h : Sim S v w) (hv : v.viewLoad p a u k b = .ok (x, l)) : w.viewLoad p a u k b = .ok (x, l) ∧ ∀ y ∈ l, ¬ S y.block ∧ y.block < v.heap.size := by
  rcases seen_sim (p := p) (a := a) (k := k) (u := u) (b := b) h with ⟨hs, he⟩ | ⟨why, he⟩
  · refine ⟨by unfold World.viewLoad at hv ⊢; rw [← he]; exact hv, ?_⟩
    have hlt : a.block < v.heap.size := by
      rcases Nat.lt_or_ge a.block v.heap.size with hl | hl
      · exact hl
      · exfalso
        obtain ⟨why, hw⟩ := seen_none (p := p) (k := k) (u := u) (b := b) (Array.getElem?_eq_none hl)
        unfold World.viewLoad at hv
        rw [hw] at hv
        cases hv
    intro y hy
    have : y.block = a.block := by
      unfold World.viewLoad at hv
      simp only [bind, Except.bind, pure, Except.pure, throw, throwThe, MonadExceptOf.throw] at hv
      repeat' (first | (cases hv; done) | split at hv)
      simp only [Except.ok.injEq, Prod.mk.injEq] at hv
      rw [← hv.2] at hy
      obtain ⟨z, _, rfl⟩ := List.mem_map.1 hy
      rfl
    rw [this]; exact ⟨hs, hlt⟩
  · unfold World.viewLoad at hv
    rw [he] at hv
    cases hv

theorem viewStore_sim {p : Program} {a k : Addr} {u : TypeId} {b : Bool} {x : Value} {v' : World} {l : List Addr} (h : Sim S v w) (hv : v.viewStore p a u k x b = .ok (v', l)) :
    ∃ w', w.viewStore p a u k x b = .ok (w', l) ∧ Sim S v' w' ∧ (∀ y ∈ l, ¬ S y.block ∧ y.block < v.heap.size) ∧ v'.heap.size = v.heap.size ∧ v'.tape = v.tape ∧ v'.drawn = v.drawn := by
  rcases seen_sim (p := p) (a := a) (k := k) (u := u) (b := b) h with ⟨hs, he⟩ | ⟨why, he⟩
  · have hlt : a.block < v.heap.size := by
      rcases Nat.lt_or_ge a.block v.heap.size with hl | hl
      · exact hl
      · exfalso
        obtain ⟨why, hw⟩ := seen_none (p := p) (k := k) (u := u) (b := b) (Array.getElem?_eq_none hl)
        unfold World.viewStore at hv
        rw [hw] at hv
        simp only [bind, Except.bind, pure, Except.pure, throw, throwThe, MonadExceptOf.throw] at hv
        split at hv <;> cases hv
    unfold World.viewStore at hv ⊢
    rw [← he]
    simp only [bind, Except.bind, pure, Except.pure, throw, throwThe, MonadExceptOf.throw] at hv ⊢
    repeat' (first | (cases hv; done) | split at hv)
    simp only [Except.ok.injEq, Prod.mk.injEq] at hv
    obtain ⟨rfl, rfl⟩ := hv
    rename_i hc
    refine ⟨_, by simp_all, h.putAt hs _, fun y hy => ?_, by simp, rfl, rfl⟩
    obtain ⟨z, _, rfl⟩ := List.mem_map.1 hy
    exact ⟨hs, hlt⟩
  · unfold World.viewStore at hv
    rw [he] at hv
    simp only [bind, Except.bind, pure, Except.pure, throw, throwThe, MonadExceptOf.throw] at hv
    split at hv <;> cases hv
end Go.Proofs.Ytadngncbbbbapaa.Lift
