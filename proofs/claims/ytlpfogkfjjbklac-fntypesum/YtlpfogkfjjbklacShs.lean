/-
  Chapter 3: the model's functions.
-/
import Derived.Test.YtlpfogkfjjbklacShno
import Derived.Test.YtlpfogkfjjbklacCat
import Derived.Deep.RegionLaw
namespace Go.Proofs.Ytlpfogkfjjbklac
open Go.RowKit
set_option linter.unusedVariables false
set_option linter.unusedSimpArgs false
/-- Two answers in memory of their own, and a bool. -/
def NewTwo (xs ys : List Int) (t : Bool) (w : World) (e : Ending) (w' : World) : Prop := ∃ m a n c a' n' c', e = .returned (.tuple #[.slice a n c, .slice a' n' c', .bool t]) ∧ w.heap.size ≤ m ∧ m ≤ w'.heap.size ∧ Own w.heap.size m w' a n c xs ∧ Own m w'.heap.size w' a' n' c' ys ∧ Below w.heap.size w w'
theorem step_of_wp {P : Program} {ops : Array Oper} {o : Oper} {a : Act} {w : World} {K : Act → World → Prop} {Q : Exit → Act → World → Prop} {E : Prop} (hg : o.guard = none) (h : o.wp P a w K Q) : if Region.wanted o (yielded ops a.tmps) = true then Oper.wp P o a w K Q else E := by
  have hw : Region.wanted o (yielded ops a.tmps) = true := by simp [Region.wanted, hg]
  rw [if_pos hw]
  exact h
namespace Lift
def zipN (g : Int → Int → Int) (xs ys : List Int) (k : Nat) : List Int := (List.range k).map (fun t => g (xs.getD t 0) (ys.getD t 0))
theorem zipN_succ (g : Int → Int → Int) (xs ys : List Int) (k : Nat) : zipN g xs ys (k + 1) = zipN g xs ys k ++ [g (xs.getD k 0) (ys.getD k 0)] := by simp [zipN, List.range_succ]
theorem fit_parts {xs ys : List Int} (h : Fp.fit xs ys = true) : Fp.sok xs = true ∧ Fp.sok ys = true ∧ xs.length = ys.length := by
  simp only [Fp.fit, Bool.and_eq_true, decide_eq_true_eq] at h
  exact ⟨h.1.1, h.1.2, h.2⟩
theorem comb_no {g : Int → Int → Int} {xs ys : List Int} (h : Fp.fit xs ys = false) : comb g xs ys = [] := by simp [comb, h]
theorem comb_sum {xs ys : List Int} (h : Fp.fit xs ys = true) : zipN Fp.sum xs ys xs.length = comb (fun x y => (x + y) % 31) xs ys := by
  obtain ⟨h1, h2, _⟩ := fit_parts h
  simp only [zipN, comb, h, if_true]
  refine List.map_congr_left fun t _ => ?_
  rw [Fp.sum_eq (Fp.sok_get h1 t) (Fp.sok_get h2 t)]
theorem comb_dif {xs ys : List Int} (h : Fp.fit xs ys = true) : zipN Fp.dif xs ys xs.length = comb (fun x y => (x - y) % 31) xs ys := by
  obtain ⟨h1, h2, _⟩ := fit_parts h
  simp only [zipN, comb, h, if_true]
  refine List.map_congr_left fun t _ => ?_
  rw [Fp.dif_eq (Fp.sok_get h1 t) (Fp.sok_get h2 t)]
theorem comb_len {g : Int → Int → Int} {xs ys : List Int} : (comb g xs ys).length ≤ 20 := by
  unfold comb
  split
  · rename_i h
    have := Fp.sok_len (fit_parts h).1
    simpa using this
  · simp
end Lift
end Go.Proofs.Ytlpfogkfjjbklac
