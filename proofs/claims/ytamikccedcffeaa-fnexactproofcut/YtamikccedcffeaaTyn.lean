/-
  Chapter 11: what TypeMake, TypeVal, TypeOk and TypeCheck return.
-/
import Derived.Test.YtamikccedcffeaaTym
import Derived.OwnWalk
namespace Go.Proofs.Ytamikccedcffeaa
open Go.RowKit
set_option linter.unusedVariables false
set_option linter.unusedSimpArgs false
theorem own_nil_b (w w' : World) (h : Below w.heap.size w w') : NewIntsB [] false w (.returned (.tuple #[.slice none 0 0, .bool false])) w' := ⟨none, 0, 0, rfl, Own.nil _ _ _ _ _ (by unfold maxLen; omega), h⟩
theorem enc_done {k : Int} {x n : Nat} (hn : n = Fp.tlen k) : fill (List.replicate n 0) (Fp.dig k x) n = Fp.tenc k x := by
  subst hn
  have := fill_all (zs := List.replicate (Fp.tlen k) (0 : Int)) (ys := Fp.tenc k x) (f := Fp.dig k x) (by simp [Fp.tenc_len]) (fun i hi => by rw [Fp.tenc_get (by simpa using hi)])
  simpa using this
theorem find_yes {k : Int} {x : Nat} {zs : List Int} (hk : Fp.tk k = true) (hx : x ≤ Fp.tmost k) (h : eqB zs (Fp.tenc k x) = true) : Fp.tval k zs = (x : Int) ∧ Fp.tok k zs = true := by
  have : zs = Fp.tenc k x := by simpa [eqB] using h
  subst this
  exact ⟨Fp.tval_enc hk hx, Fp.tok_enc hk hx⟩
theorem find_no {k : Int} {zs : List Int} (hk : Fp.tk k = true) (h : ∀ x, x < Fp.tmost k + 1 → eqB zs (Fp.tenc k x) = false) : Fp.tval k zs = 0 ∧ Fp.tok k zs = false := by
  have := Fp.tfind_none (v := zs) hk (fun x hx e => by have := h x hx; rw [eqB_true e.symm] at this; cases this)
  exact ⟨by rw [Fp.tval, this]; rfl, by rw [Fp.tok, this]; rfl⟩
def noneTo (k : Int) (zs : List Int) (j : Nat) : Prop := ∀ x, x < j → eqB zs (Fp.tenc k x) = false
theorem noneTo_zero (k : Int) (zs : List Int) : noneTo k zs 0 := fun x h => by omega
theorem noneTo_succ {k : Int} {zs : List Int} {j : Nat} (h : noneTo k zs j) (hj : eqB zs (Fp.tenc k j) = false) : noneTo k zs (j + 1) := fun x hx => by
  by_cases e : x = j
  · subst e; exact hj
  · exact h x (by omega)
end Go.Proofs.Ytamikccedcffeaa
