/-
  Chapter 3: the model's functions.
-/
import Derived.Test.YtadngncbbbbapaaShno
import Derived.Test.YtadngncbbbbapaaCat
import Derived.Deep.RegionLaw
namespace Go.Proofs.Ytadngncbbbbapaa
open Go.RowKit
set_option linter.unusedVariables false
set_option linter.unusedSimpArgs false
/-- Two answers in memory of their own, and a bool. -/
def NewTwo (xs ys : List Int) (t : Bool) (w : World) (e : Ending) (w' : World) : Prop := ∃ m a n c a' n' c', e = .returned (.tuple #[.slice a n c, .slice a' n' c', .bool t]) ∧ w.heap.size ≤ m ∧ m ≤ w'.heap.size ∧ Own w.heap.size m w' a n c xs ∧ Own m w'.heap.size w' a' n' c' ys ∧ Below w.heap.size w w'
theorem step_of_wp {P : Program} {ops : Array Oper} {o : Oper} {a : Act} {w : World} {K : Act → World → Prop} {Q : Exit → Act → World → Prop} {E : Prop} (hg : o.guard = none) (h : o.wp P a w K Q) : if Region.wanted o (yielded ops a.tmps) = true then Oper.wp P o a w K Q else E := by
  have hw : Region.wanted o (yielded ops a.tmps) = true := by simp [Region.wanted, hg]
  rw [if_pos hw]
  exact h
namespace Lift
def zipN (g : Int → Int → Int) (xs ys : List Int) (k : Nat) : List Int := (List.range k).map (fun t => g (xs.getD t 0) (ys.getD t 0))
theorem zipN_succ (g : Int → Int → Int) (xs ys : List Int) (k : Nat) : zipN g xs ys (k + 1) = zipN g xs ys k ++ [g (xs.getD k 0) (ys.getD k 0)] := by simp [zipN, List.range_succ]
theorem fit_parts {xs ys : List Int} (h : Fp.fit xs ys = true) : Fp.sok xs = true ∧ Fp.sok ys = true ∧ xs.length = ys.length := by
  simp only [Fp.fit, Bool.and_eq_true, decide_eq_true_eq] at h
  exact ⟨h.1.1, h.1.2, h.2⟩
theorem comb_no {g : Int → Int → Int} {xs ys : List Int} (h : Fp.fit xs ys = false) : comb g xs ys = [] := by simp [comb, h]
theorem comb_sum {xs ys : List Int} (h : Fp.fit xs ys = true) : zipN Fp.sum xs ys xs.length = comb (fun x y => (x + y) % 31) xs ys := by
  obtain ⟨h1, h2, _⟩ := fit_parts h
  simp only [zipN, comb, h, if_true]
  refine List.map_congr_left fun t _ => ?_
  rw [Fp.sum_eq (Fp.sok_get h1 t) (Fp.sok_get h2 t)]
theorem comb_dif {xs ys : List Int} (h : Fp.fit xs ys = true) : zipN Fp.dif xs ys xs.length = comb (fun x y => (x - y) % 31) xs ys := by
  obtain ⟨h1, h2, _⟩ := fit_parts h
  simp only [zipN, comb, h, if_true]
  refine List.map_congr_left fun t _ => ?_
  rw [Fp.dif_eq (Fp.sok_get h1 t) (Fp.sok_get h2 t)]
theorem comb_len {g : Int → Int → Int} {xs ys : List Int} : (comb g xs ys).length ≤ 20 := by
  unfold comb
  split
  · rename_i h
    have := Fp.sok_len (fit_parts h).1
    simpa using this
  · simp
end Lift
theorem spec_l3Sum (a a' : Option Addr) (n n' cap cap' : Nat) (xs ys : List Int) (w : World) (h : Sl w a n xs) (h' : Sl w a' n' ys) (hn : n ≤ n') (hm : n ≤ 1000) :
    Calls Try.prog 45 #[.slice a n cap, .slice a' n' cap'] w (NewInts (Lift.zipN Fp.sum xs ys n) w) := by
  have H := Lib.hid h
  have H' := Lib.hid h'
  clear h h'
  go_enter Try.func45, Try.ntmps45
  go_wp2
  go_loopw [5, 6] (fun v i wr => ∃ (k c : Nat) (p : Option Addr), k ≤ n ∧ i = .int .i64 k ∧ v = .slice p k c ∧ Hid (wr.ownsRow w.heap.size 3 1 (.slice p k c) k ((Lift.zipN Fp.sum xs ys k).map (Value.int .i64))) ∧ Hid (Below w.heap.size w wr)) (fun _ i _ => n - (intOf i).toNat)
  case atStart => exact ⟨0, 0, _, by omega, rfl, rfl, own_empty _ _ _ (Nat.le_refl _), (Below.refl _ _).alloc (Nat.le_refl _) _⟩
  case round =>
    obtain ⟨k, c, p, hk, rfl, rfl, hO, hB⟩ := hrel
    by_cases hlt : k < n
    · obtain ⟨b, off, z, rfl, hc, hz⟩ := (H.out.below hB.out).get hlt
      obtain ⟨b', off', z', rfl, hc', hz'⟩ := (H'.out.below hB.out).get (show k < n' by omega)
      have hlt' : k < n' := by omega
      have i1 : (k : Int) < (n : Int) := by omega
      have i2 : (k : Int) < (n' : Int) := by omega
      have i0 : (0 : Int) ≤ (k : Int) := by omega
      have hk6 : k ≤ 1048575 := by omega
      have hsz := hB.out.size
      have O0 := Lib.hid hO.out.drew
      go_wp2
      go_region_law (first | (refine step_of_wp (by rfl) (wp_push int_ty (.tmp 14) (.tmp 24) rfl w.heap.size rfl rfl O0.out hk6 hsz ?_); intro g cap' w1 own1 bel1) | (go_simp; go_at_call 62; refine (spec_FieldSum _ _ _).mono ?_; rintro e w' ⟨rfl, rfl⟩))
      all_goals
        have O1 := Lib.hid own1
        have B1 := Lib.hid (hB.out.drew.trans bel1)
        clear own1 bel1
        have E := Lib.hid (Lift.zipN_succ Fp.sum xs ys k)
        rw [← hz.out, ← hz'.out] at E
        go_wp2
        go_roundw
        case rel => exact ⟨k + 1, cap', _, by omega, by go_num, rfl, by rw [E.out]; exact O1.out, B1.out⟩
        case measure => simp [intOf]; omega
    · have e : k = n := by omega
      subst e
      go_wp2
      go_ret
      exact ⟨_, _, _, rfl, Own.of_row hO.out, hB.out⟩
theorem spec_l3Dif (a a' : Option Addr) (n n' cap cap' : Nat) (xs ys : List Int) (w : World) (h : Sl w a n xs) (h' : Sl w a' n' ys) (hn : n ≤ n') (hm : n ≤ 1000) :
    Calls Try.prog 39 #[.slice a n cap, .slice a' n' cap'] w (NewInts (Lift.zipN Fp.dif xs ys n) w) := by
  have H := Lib.hid h
  have H' := Lib.hid h'
  clear h h'
  go_enter Try.func39, Try.ntmps39
  go_wp2
  go_loopw [5, 6] (fun v i wr => ∃ (k c : Nat) (p : Option Addr), k ≤ n ∧ i = .int .i64 k ∧ v = .slice p k c ∧ Hid (wr.ownsRow w.heap.size 3 1 (.slice p k c) k ((Lift.zipN Fp.dif xs ys k).map (Value.int .i64))) ∧ Hid (Below w.heap.size w wr)) (fun _ i _ => n - (intOf i).toNat)
  case atStart => exact ⟨0, 0, _, by omega, rfl, rfl, own_empty _ _ _ (Nat.le_refl _), (Below.refl _ _).alloc (Nat.le_refl _) _⟩
  case round =>
    obtain ⟨k, c, p, hk, rfl, rfl, hO, hB⟩ := hrel
    by_cases hlt : k < n
    · obtain ⟨b, off, z, rfl, hc, hz⟩ := (H.out.below hB.out).get hlt
      obtain ⟨b', off', z', rfl, hc', hz'⟩ := (H'.out.below hB.out).get (show k < n' by omega)
      have hlt' : k < n' := by omega
      have i1 : (k : Int) < (n : Int) := by omega
      have i2 : (k : Int) < (n' : Int) := by omega
      have i0 : (0 : Int) ≤ (k : Int) := by omega
      have hk6 : k ≤ 1048575 := by omega
      have hsz := hB.out.size
      have O0 := Lib.hid hO.out.drew
      go_wp2
      go_region_law (first | (refine step_of_wp (by rfl) (wp_push int_ty (.tmp 14) (.tmp 24) rfl w.heap.size rfl rfl O0.out hk6 hsz ?_); intro g cap' w1 own1 bel1) | (go_simp; go_at_call 54; refine (spec_FieldDif _ _ _).mono ?_; rintro e w' ⟨rfl, rfl⟩))
      all_goals
        have O1 := Lib.hid own1
        have B1 := Lib.hid (hB.out.drew.trans bel1)
        clear own1 bel1
        have E := Lib.hid (Lift.zipN_succ Fp.dif xs ys k)
        rw [← hz.out, ← hz'.out] at E
        go_wp2
        go_roundw
        case rel => exact ⟨k + 1, cap', _, by omega, by go_num, rfl, by rw [E.out]; exact O1.out, B1.out⟩
        case measure => simp [intOf]; omega
    · have e : k = n := by omega
      subst e
      go_wp2
      go_ret
      exact ⟨_, _, _, rfl, Own.of_row hO.out, hB.out⟩
theorem spec_ShareBack (a a' : Option Addr) (n n' cap cap' : Nat) (xs ys : List Int) (w : World) (h : Sl w a n xs) (h' : Sl w a' n' ys) (hm : n ≤ 1048576) (hm' : n' ≤ 1048576) :
    Calls Try.prog 27 #[.slice a n cap, .slice a' n' cap'] w (NewIntsB (Lift.comb (fun x y => (x + y) % 31) xs ys) (Fp.fit xs ys) w) := by
  have H := Lib.hid h
  have H' := Lib.hid h'
  have L := Lib.hid h.len
  have L' := Lib.hid h'.len
  have E1 := Lib.hid (own_empty w.heap.size 3 w (Nat.le_refl _))
  have B1 := Lib.hid ((Below.refl w.heap.size w).alloc (Nat.le_refl _) (.cells #[] 3))
  clear h h'
  cases hf : Fp.fit xs ys
  · rw [Lift.comb_no hf]
    cases e1 : Fp.sok xs
    · clear hf
      go_enter Try.func27, Try.ntmps27
      go_wp2_with (go_at_call 38; (with_reducible refine (spec_ShareOk _ _ _ xs _ H.out hm).mono ?_); rintro e w' ⟨rfl, rfl⟩)
      go_ret2
      exact ⟨_, _, _, rfl, Own.of_row (zs := []) E1.out, B1.out⟩
    · cases e2 : Fp.sok ys
      · clear hf
        go_enter Try.func27, Try.ntmps27
        go_wp2_with (first | (go_at_call 38; (with_reducible refine (spec_ShareOk _ _ _ xs _ H.out hm).mono ?_); rintro e w' ⟨rfl, rfl⟩) | (go_at_call 38; (with_reducible refine (spec_ShareOk _ _ _ ys _ H'.out hm').mono ?_); rintro e w' ⟨rfl, rfl⟩))
        go_ret2
        exact ⟨_, _, _, rfl, Own.of_row (zs := []) E1.out, B1.out⟩
      · have hb : ((n : Int) != (n' : Int)) = true := by
          have hne : n ≠ n' := fun e => by simp [Fp.fit, e1, e2, L.out, L'.out, e] at hf
          simp; omega
        clear hf
        go_enter Try.func27, Try.ntmps27
        go_wp2_with (first | (go_at_call 38; (with_reducible refine (spec_ShareOk _ _ _ xs _ H.out hm).mono ?_); rintro e w' ⟨rfl, rfl⟩) | (go_at_call 38; (with_reducible refine (spec_ShareOk _ _ _ ys _ H'.out hm').mono ?_); rintro e w' ⟨rfl, rfl⟩))
        go_ret2
        exact ⟨_, _, _, rfl, Own.of_row (zs := []) E1.out, B1.out⟩
  · obtain ⟨e1, e2, e3⟩ := Lift.fit_parts hf
    have E := Lib.hid (Lift.comb_sum hf)
    have N : n = n' := by rw [← L.out, ← L'.out]; exact e3
    have n20 : n ≤ 20 := by rw [← L.out]; exact Fp.sok_len e1
    rw [← E.out, L.out]
    clear hf e3
    subst N
    go_enter Try.func27, Try.ntmps27
    go_wp2_with (first | (go_at_call 38; (with_reducible refine (spec_ShareOk _ _ _ xs _ H.out hm).mono ?_); rintro e w' ⟨rfl, rfl⟩) | (go_at_call 38; (with_reducible refine (spec_ShareOk _ _ _ ys _ H'.out hm').mono ?_); rintro e w' ⟨rfl, rfl⟩) | (go_at_call 45; (refine (spec_l3Sum _ _ _ _ _ _ xs ys _ H.out H'.out (Nat.le_refl _) (by omega)).mono ?_); rintro e w' ⟨a1, n1, c1, rfl, o1, b1⟩))
    go_ret2
    exact ⟨_, _, _, rfl, o1, b1⟩
theorem spec_ShareDrawn (a a' : Option Addr) (n n' cap cap' : Nat) (xs ys : List Int) (w : World) (h : Sl w a n xs) (h' : Sl w a' n' ys) (hm : n ≤ 1048576) (hm' : n' ≤ 1048576) :
    Calls Try.prog 19 #[.slice a n cap, .slice a' n' cap'] w (NewIntsB (Lift.comb (fun x y => (x - y) % 31) xs ys) (Fp.fit xs ys) w) := by
  have H := Lib.hid h
  have H' := Lib.hid h'
  have L := Lib.hid h.len
  have L' := Lib.hid h'.len
  have E1 := Lib.hid (own_empty w.heap.size 3 w (Nat.le_refl _))
  have B1 := Lib.hid ((Below.refl w.heap.size w).alloc (Nat.le_refl _) (.cells #[] 3))
  clear h h'
  cases hf : Fp.fit xs ys
  · rw [Lift.comb_no hf]
    cases e1 : Fp.sok xs
    · clear hf
      go_enter Try.func19, Try.ntmps19
      go_wp2_with (go_at_call 38; (with_reducible refine (spec_ShareOk _ _ _ xs _ H.out hm).mono ?_); rintro e w' ⟨rfl, rfl⟩)
      go_ret2
      exact ⟨_, _, _, rfl, Own.of_row (zs := []) E1.out, B1.out⟩
    · cases e2 : Fp.sok ys
      · clear hf
        go_enter Try.func19, Try.ntmps19
        go_wp2_with (first | (go_at_call 38; (with_reducible refine (spec_ShareOk _ _ _ xs _ H.out hm).mono ?_); rintro e w' ⟨rfl, rfl⟩) | (go_at_call 38; (with_reducible refine (spec_ShareOk _ _ _ ys _ H'.out hm').mono ?_); rintro e w' ⟨rfl, rfl⟩))
        go_ret2
        exact ⟨_, _, _, rfl, Own.of_row (zs := []) E1.out, B1.out⟩
      · have hb : ((n : Int) != (n' : Int)) = true := by
          have hne : n ≠ n' := fun e => by simp [Fp.fit, e1, e2, L.out, L'.out, e] at hf
          simp; omega
        clear hf
        go_enter Try.func19, Try.ntmps19
        go_wp2_with (first | (go_at_call 38; (with_reducible refine (spec_ShareOk _ _ _ xs _ H.out hm).mono ?_); rintro e w' ⟨rfl, rfl⟩) | (go_at_call 38; (with_reducible refine (spec_ShareOk _ _ _ ys _ H'.out hm').mono ?_); rintro e w' ⟨rfl, rfl⟩))
        go_ret2
        exact ⟨_, _, _, rfl, Own.of_row (zs := []) E1.out, B1.out⟩
  · obtain ⟨e1, e2, e3⟩ := Lift.fit_parts hf
    have E := Lib.hid (Lift.comb_dif hf)
    have N : n = n' := by rw [← L.out, ← L'.out]; exact e3
    have n20 : n ≤ 20 := by rw [← L.out]; exact Fp.sok_len e1
    rw [← E.out, L.out]
    clear hf e3
    subst N
    go_enter Try.func19, Try.ntmps19
    go_wp2_with (first | (go_at_call 38; (with_reducible refine (spec_ShareOk _ _ _ xs _ H.out hm).mono ?_); rintro e w' ⟨rfl, rfl⟩) | (go_at_call 38; (with_reducible refine (spec_ShareOk _ _ _ ys _ H'.out hm').mono ?_); rintro e w' ⟨rfl, rfl⟩) | (go_at_call 39; (refine (spec_l3Dif _ _ _ _ _ _ xs ys _ H.out H'.out (Nat.le_refl _) (by omega)).mono ?_); rintro e w' ⟨a1, n1, c1, rfl, o1, b1⟩))
    go_ret2
    exact ⟨_, _, _, rfl, o1, b1⟩
theorem spec_ShareSum (a a' : Option Addr) (n n' cap cap' : Nat) (xs ys : List Int) (w : World) (h : Sl w a n xs) (h' : Sl w a' n' ys) (hm : n ≤ 1048576) (hm' : n' ≤ 1048576) :
    Calls Try.prog 24 #[.slice a n cap, .slice a' n' cap'] w (NewIntsB (Lift.comb (fun x y => (x + y) % 31) xs ys) (Fp.fit xs ys) w) := by
  have H := Lib.hid h
  have H' := Lib.hid h'
  clear h h'
  go_enter Try.func24, Try.ntmps24
  go_wp2_with (go_at_call 27; (refine (spec_ShareBack _ _ _ _ _ _ xs ys _ H.out H'.out hm hm').mono ?_); rintro e w' ⟨a1, n1, c1, rfl, o1, b1⟩)
  go_ret2
  exact ⟨_, _, _, rfl, o1, b1⟩
end Go.Proofs.Ytadngncbbbbapaa
