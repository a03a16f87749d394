/-
  Chapter 3: the model's functions.
-/
import Derived.Test.YtmaapekmndjgiaaShno
import Derived.Test.YtmaapekmndjgiaaCat
import Derived.Deep.RegionLaw
namespace Go.Proofs.Ytmaapekmndjgiaa
open Go.RowKit
set_option linter.unusedVariables false
set_option linter.unusedSimpArgs false
/-- Two answers in memory of their own, and a bool. -/
def NewTwo (xs ys : List Int) (t : Bool) (w : World) (e : Ending) (w' : World) : Prop := ∃ m a n c a' n' c', e = .returned (.tuple #[.slice a n c, .slice a' n' c', .bool t]) ∧ w.heap.size ≤ m ∧ m ≤ w'.heap.size ∧ Own w.heap.size m w' a n c xs ∧ Own m w'.heap.size w' a' n' c' ys ∧ Below w.heap.size w w'
theorem step_of_wp {P : Program} {ops : Array Oper} {o : Oper} {a : Act} {w : World} {K : Act → World → Prop} {Q : Exit → Act → World → Prop} {E : Prop} (hg : o.guard = none) (h : o.wp P a w K Q) : if Region.wanted o (yielded ops a.tmps) = true then Oper.wp P o a w K Q else E := by
  have hw : Region.wanted o (yielded ops a.tmps) = true := by simp [Region.wanted, hg]
  rw [if_pos hw]
  exact h
namespace Lift
def zipN (g : Int → Int → Int) (xs ys : List Int) (k : Nat) : List Int := (List.range k).map (fun t => g (xs.getD t 0) (ys.getD t 0))
theorem zipN_succ (g : Int → Int → Int) (xs ys : List Int) (k : Nat) : zipN g xs ys (k + 1) = zipN g xs ys k ++ [g (xs.getD k 0) (ys.getD k 0)] := by simp [zipN, List.range_succ]
theorem fit_parts {xs ys : List Int} (h : Fp.fit xs ys = true) : Fp.sok xs = true ∧ Fp.sok ys = true ∧ xs.length = ys.length := by
  simp only [Fp.fit, Bool.and_eq_true, decide_eq_true_eq] at h
  exact ⟨h.1.1, h.1.2, h.2⟩
theorem comb_no {g : Int → Int → Int} {xs ys : List Int} (h : Fp.fit xs ys = false) : comb g xs ys = [] := by simp [comb, h]
theorem comb_sum {xs ys : List Int} (h : Fp.fit xs ys = true) : zipN Fp.sum xs ys xs.length = comb (fun x y => (x + y) % 31) xs ys := by
  obtain ⟨h1, h2, _⟩ := fit_parts h
  simp only [zipN, comb, h, if_true]
  refine List.map_congr_left fun t _ => ?_
  rw [Fp.sum_eq (Fp.sok_get h1 t) (Fp.sok_get h2 t)]
theorem comb_dif {xs ys : List Int} (h : Fp.fit xs ys = true) : zipN Fp.dif xs ys xs.length = comb (fun x y => (x - y) % 31) xs ys := by
  obtain ⟨h1, h2, _⟩ := fit_parts h
  simp only [zipN, comb, h, if_true]
  refine List.map_congr_left fun t _ => ?_
  rw [Fp.dif_eq (Fp.sok_get h1 t) (Fp.sok_get h2 t)]
theorem comb_len {g : Int → Int → Int} {xs ys : List Int} : (comb g xs ys).length ≤ 20 := by
  unfold comb
  split
  · rename_i h
    have := Fp.sok_len (fit_parts h).1
    simpa using this
  · simp
end Lift
theorem spec_l3Sum (a a' : Option Addr) (n n' cap cap' : Nat) (xs ys : List Int) (w : World) (h : Sl w a n xs) (h' : Sl w a' n' ys) (hn : n ≤ n') (hm : n ≤ 1000) :
    Calls Try.prog 15 #[.slice a n cap, .slice a' n' cap'] w (NewInts (Lift.zipN Fp.sum xs ys n) w) := by
  have H := Lib.hid h
  have H' := Lib.hid h'
  clear h h'
  go_enter Try.func15, Try.ntmps15
  go_wp2
  go_loopw [5, 6] (fun v i wr => ∃ (k c : Nat) (p : Option Addr), k ≤ n ∧ i = .int .i64 k ∧ v = .slice p k c ∧ Hid (wr.ownsRow w.heap.size 3 1 (.slice p k c) k ((Lift.zipN Fp.sum xs ys k).map (Value.int .i64))) ∧ Hid (Below w.heap.size w wr)) (fun _ i _ => n - (intOf i).toNat)
  case atStart => exact ⟨0, 0, _, by omega, rfl, rfl, own_empty _ _ _ (Nat.le_refl _), (Below.refl _ _).alloc (Nat.le_refl _) _⟩
  case round =>
    obtain ⟨k, c, p, hk, rfl, rfl, hO, hB⟩ := hrel
    by_cases hlt : k < n
    · obtain ⟨b, off, z, rfl, hc, hz⟩ := (H.out.below hB.out).get hlt
      obtain ⟨b', off', z', rfl, hc', hz'⟩ := (H'.out.below hB.out).get (show k < n' by omega)
      have hlt' : k < n' := by omega
      have i1 : (k : Int) < (n : Int) := by omega
      have i2 : (k : Int) < (n' : Int) := by omega
      have i0 : (0 : Int) ≤ (k : Int) := by omega
      have hk6 : k ≤ 1048575 := by omega
      have hsz := hB.out.size
      have O0 := Lib.hid hO.out.drew
      go_wp2
      go_region_law (first | (refine step_of_wp (by rfl) (wp_push int_ty (.tmp 14) (.tmp 24) rfl w.heap.size rfl rfl O0.out hk6 hsz ?_); intro g cap' w1 own1 bel1) | (go_simp; go_at_call 21; refine (spec_FieldSum _ _ _).mono ?_; rintro e w' ⟨rfl, rfl⟩))
      all_goals
        have O1 := Lib.hid own1
        have B1 := Lib.hid (hB.out.drew.trans bel1)
        clear own1 bel1
        have E := Lib.hid (Lift.zipN_succ Fp.sum xs ys k)
        rw [← hz.out, ← hz'.out] at E
        go_wp2
        go_roundw
        case rel => exact ⟨k + 1, cap', _, by omega, by go_num, rfl, by rw [E.out]; exact O1.out, B1.out⟩
        case measure => simp [intOf]; omega
    · have e : k = n := by omega
      subst e
      go_wp2
      go_ret
      exact ⟨_, _, _, rfl, Own.of_row hO.out, hB.out⟩
end Go.Proofs.Ytmaapekmndjgiaa
