/-
  What lay below is as it was, the tape aside; and small laws of K.
-/
import Derived.Test.YtadngncbbbbapaaKend
import Derived.Below
namespace Go.Proofs.Ytadngncbbbbapaa.Lift
open Go.Conc Go.Proofs.Ytadngncbbbbapaa.Crew Go.RowKit
set_option linter.unusedVariables false
/-- Tape aside, nothing below has turned. -/
structure Blw (N : Nat) (v v' : World) : Prop where
  os : v'.os = v.os
  output : v'.output = v.output
  size : v.heap.size ≤ v'.heap.size
  block : ∀ k, k < N → v'.heap[k]? = v.heap[k]?
theorem Blw.refl (N : Nat) (v : World) : Blw N v v := ⟨rfl, rfl, Nat.le_refl _, fun _ _ => rfl⟩
theorem Blw.trans {N : Nat} {u v w : World} (h : Blw N u v) (k : Blw N v w) : Blw N u w := ⟨k.os.trans h.os, k.output.trans h.output, Nat.le_trans h.size k.size, fun i hi => (k.block i hi).trans (h.block i hi)⟩
theorem Blw.mono {N M : Nat} {v w : World} (h : Blw N v w) (hm : M ≤ N) : Blw M v w := ⟨h.os, h.output, h.size, fun k hk => h.block k (by omega)⟩
theorem Blw.of {N : Nat} {v w : World} (h : Below N v w) : Blw N v w := ⟨h.os, h.output, h.size, h.block⟩
theorem Blw.re {N : Nat} {v w : World} {τ : Nat → Question → Nat} {d : Nat} (h : Blw N (Lift.re v τ d) w) : Blw N v w := ⟨h.os, h.output, h.size, h.block⟩
theorem Blw.below {N : Nat} {v w : World} (h : Blw N v w) : Below N v (Lift.re w v.tape w.drawn) := ⟨h.os, rfl, h.output, h.size, h.block⟩
theorem Blw.next {w V V' : World} (h : Blw w.heap.size w V) (b : Below V.heap.size V V') : Blw w.heap.size w V' := h.trans ((Blw.of b).mono h.size)
theorem Blw.at {N : Nat} {w W V : World} {τ : Nat → Question → Nat} {d : Nat} (h : Blw N w W) (e : Lift.re W τ d = V) : Blw N w V := e ▸ ⟨h.os, h.output, h.size, h.block⟩
theorem Blw.frame {W w' : World} (h : Blw W.heap.size W w') (may : MemPlace → Prop) : W.keptBut w' may := by
  have := h.below.frame may
  exact ⟨h.os, h.output, this.2.2⟩
theorem Blw.sim {N B : Nat} {v v' w : World} {S : Nat → Prop} (h : Blw N v v') (hN : N ≤ B) (hS : ∀ b, S b → B ≤ b) (hs : Sim S (Lift.re v' w.tape w.drawn) w) : Blw N v w := ⟨hs.os.symm.trans h.os, hs.output.symm.trans h.output, by have := hs.size; have := h.size; simp only [re_heap] at *; omega, fun k hk => (hs.same k (fun hk' => by have := hS k hk'; omega)).symm.trans (h.block k hk)⟩
theorem K.unre {P : Program} {B : Nat} {a : Goroutine} {v : World} {Q : Goroutine → World → Prop} {τ : Nat → Question → Nat} {d : Nat} (h : K P B a v Q) : K P B a (Lift.re v τ d) Q := K.re (τ := v.tape) (d := v.drawn) h
theorem K.cast {P : Program} {B : Nat} {a a' : Goroutine} {v : World} {Q : Goroutine → World → Prop} (h : K P B a' v Q) (e : a = a') : K P B a v Q := e ▸ h
end Go.Proofs.Ytadngncbbbbapaa.Lift
