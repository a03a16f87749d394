/-
  Ledgers of fractions: plain, no program is named here.
-/
import Derived.Test.YtigeffgehckbpabFrl
namespace Go.Proofs.Ytigeffgehckbpab.Fr
/-- One fraction less than another, or the same. -/
def le (a b c d : Int) : Prop := a * d ≤ c * b
theorem cmp_le {a b c d : Int} (h1 : ok a b = true) (h2 : ok c d = true) : (cmp a b c d ≤ 0) ↔ le a b c d := by
  have ht := two_iff.2 ⟨h1, h2⟩
  unfold le
  rcases Int.lt_trichotomy (a * d) (c * b) with k | k | k
  · rw [cmp_lt ht k]; constructor <;> intro <;> omega
  · rw [cmp_eq ht k]; constructor <;> intro <;> omega
  · rw [cmp_gt ht k]; constructor <;> intro <;> omega
theorem le_trans' {a b c d e f : Int} (h1 : ok a b = true) (h2 : ok c d = true) (h3 : ok e f = true) (k1 : le a b c d) (k2 : le c d e f) : le a b e f := by
  obtain ⟨a, b, rfl, rfl, -, hb, -, -⟩ := ok_nat h1
  obtain ⟨c, d, rfl, rfl, -, hd, -, -⟩ := ok_nat h2
  obtain ⟨e, f, rfl, rfl, -, hf, -, -⟩ := ok_nat h3
  have k1' : a * d ≤ c * b := by unfold le at k1; exact_mod_cast k1
  have k2' : c * f ≤ e * d := by unfold le at k2; exact_mod_cast k2
  have : a * f ≤ e * b := by
    refine Nat.le_of_mul_le_mul_right (c := d) ?_ hd
    calc a * f * d = (a * d) * f := by ac_rfl
      _ ≤ (c * b) * f := Nat.mul_le_mul_right _ k1'
      _ = (c * f) * b := by ac_rfl
      _ ≤ (e * d) * b := Nat.mul_le_mul_right _ k2'
      _ = e * b * d := by ac_rfl
  show (a : Int) * (f : Int) ≤ (e : Int) * (b : Int)
  exact_mod_cast this
/-- A sum is no less than what it is a sum of. -/
theorem le_sum {a b c d : Int} (h : sB a b c d = true) : le a b (sN a b c d) (sD a b c d) ∧ ok (sN a b c d) (sD a b c d) = true := by
  obtain ⟨h1, h2⟩ := s_two h
  obtain ⟨a, b, rfl, rfl, -, hb, -, -⟩ := ok_nat h1
  obtain ⟨c, d, rfl, rfl, -, hd, -, -⟩ := ok_nat h2
  obtain ⟨-, -, p, q, e1, e2, h3, h4⟩ := s_get h
  rw [e1, e2]
  refine ⟨?_, h3⟩
  have := c_more hd h4
  show (a : Int) * (q : Int) ≤ (p : Int) * (b : Int)
  exact_mod_cast this
/-- The total from t on. -/
def tot : Int × Int → List (Int × Int) → Option (Int × Int)
  | t, [] => some t
  | t, f :: fs => if sB t.1 t.2 f.1 f.2 then tot (sN t.1 t.2 f.1 f.2, sD t.1 t.2 f.1 f.2) fs else none
theorem tot_app (t : Int × Int) (xs ys : List (Int × Int)) : tot t (xs ++ ys) = (tot t xs).bind fun u => tot u ys := by
  induction xs generalizing t with
  | nil => rfl
  | cons f fs ih =>
    simp only [List.cons_append, tot]
    split
    · exact ih _
    · rfl
theorem tot_ok {t u : Int × Int} {fs : List (Int × Int)} (ht : ok t.1 t.2 = true) (h : tot t fs = some u) : ok u.1 u.2 = true ∧ le t.1 t.2 u.1 u.2 := by
  induction fs generalizing t with
  | nil => simp [tot] at h; subst h; exact ⟨ht, Int.le_refl _⟩
  | cons f fs ih =>
    simp only [tot] at h
    split at h
    · rename_i hs
      obtain ⟨k1, k2⟩ := le_sum hs
      obtain ⟨i1, i2⟩ := ih (t := (sN t.1 t.2 f.1 f.2, sD t.1 t.2 f.1 f.2)) k2 h
      exact ⟨i1, le_trans' ht k2 i1 k1 i2⟩
    · cases h
/-- The charges can be paid: the ledger's validity, its budget aside. -/
def fits (c d : Int) (fs : List (Int × Int)) : Bool := match tot (0, 1) fs with
  | some t => decide (cmp t.1 t.2 c d ≤ 0)
  | none => false
def good (c d : Int) (fs : List (Int × Int)) : Bool := ok c d && decide (fs.length ≤ 8) && fits c d fs
def total (c d : Int) (fs : List (Int × Int)) : Int × Int := if good c d fs then (tot (0, 1) fs).getD (0, 0) else (0, 0)
/-- Paying one by one, from total t and m charges on. -/
def pays (c d : Int) (t : Int × Int) (m : Nat) (f : Int × Int) : Bool := sB t.1 t.2 f.1 f.2 && decide (m ≠ 8) && decide (cmp (sN t.1 t.2 f.1 f.2) (sD t.1 t.2 f.1 f.2) c d ≤ 0)
def run (c d : Int) : Int × Int → Nat → List (Int × Int) → Option (Int × Int)
  | t, _, [] => some t
  | t, m, f :: fs => if pays c d t m f then run c d (sN t.1 t.2 f.1 f.2, sD t.1 t.2 f.1 f.2) (m + 1) fs else none
theorem run_app (c d : Int) (t : Int × Int) (m : Nat) (xs ys : List (Int × Int)) : run c d t m (xs ++ ys) = (run c d t m xs).bind fun u => run c d u (m + xs.length) ys := by
  induction xs generalizing t m with
  | nil => simp [run]
  | cons f fs ih =>
    simp only [List.cons_append, run]
    split
    · rw [ih, List.length_cons, Nat.add_assoc, Nat.add_comm 1]
    · rfl
theorem run_snoc {c d : Int} {t u : Int × Int} {m : Nat} {xs : List (Int × Int)} (f : Int × Int) (h : run c d t m xs = some u) : run c d t m (xs ++ [f]) = if pays c d u (m + xs.length) f then some (sN u.1 u.2 f.1 f.2, sD u.1 u.2 f.1 f.2) else none := by
  rw [run_app, h]
  simp only [Option.bind_some, run]
theorem run_none {c d : Int} {t u : Int × Int} {m : Nat} {xs ys : List (Int × Int)} {f : Int × Int} (h : run c d t m xs = some u) (hp : pays c d u (m + xs.length) f = false) : run c d t m (xs ++ f :: ys) = none := by
  rw [run_app, h]
  simp [run, hp]
theorem run_eq {c d : Int} (hc : ok c d = true) : ∀ (fs : List (Int × Int)) (t : Int × Int) (m : Nat), ok t.1 t.2 = true → m ≤ 8 → le t.1 t.2 c d →
    run c d t m fs = if m + fs.length ≤ 8 then (tot t fs).bind (fun u => if cmp u.1 u.2 c d ≤ 0 then some u else none) else none
  | [], t, m, ht, hm, hl => by
    simp only [run, tot, List.length_nil, Nat.add_zero, Option.bind_some]
    rw [if_pos hm, if_pos ((cmp_le ht hc).2 hl)]
  | f :: fs, t, m, ht, hm, hl => by
    simp only [run, List.length_cons]
    cases hs : sB t.1 t.2 f.1 f.2
    · have hp : pays c d t m f = false := by simp [pays, hs]
      rw [hp]
      simp [tot, hs]
    obtain ⟨k1, k2⟩ := le_sum hs
    by_cases h8 : m = 8
    · have hp : pays c d t m f = false := by simp [pays, h8]
      rw [hp, if_neg (show ¬ (m + (fs.length + 1) ≤ 8) by omega)]; rfl
    by_cases hk : cmp (sN t.1 t.2 f.1 f.2) (sD t.1 t.2 f.1 f.2) c d ≤ 0
    · have hp : pays c d t m f = true := by simp [pays, hs, h8, hk]
      have e := run_eq hc fs (sN t.1 t.2 f.1 f.2, sD t.1 t.2 f.1 f.2) (m + 1) k2 (by omega) ((cmp_le k2 hc).1 hk)
      rw [hp, if_pos rfl, e, show m + 1 + fs.length = m + (fs.length + 1) by omega]
      simp [tot, hs]
    · have hp : pays c d t m f = false := by simp [pays, hk]
      rw [hp]
      simp only [tot, hs, if_true, Bool.false_eq_true, if_false]
      split
      · cases hu : tot (sN t.1 t.2 f.1 f.2, sD t.1 t.2 f.1 f.2) fs with
        | none => rfl
        | some u =>
          obtain ⟨i1, i2⟩ := tot_ok (t := (sN t.1 t.2 f.1 f.2, sD t.1 t.2 f.1 f.2)) k2 hu
          have : ¬ cmp u.1 u.2 c d ≤ 0 := fun h => hk ((cmp_le k2 hc).2 (le_trans' k2 i1 hc i2 ((cmp_le i1 hc).1 h)))
          simp [this]
      · rfl
theorem le_zero {c d : Int} (hc : ok c d = true) : le 0 1 c d := by
  obtain ⟨h1, h2, h3, h4⟩ := lim_iff.1 (ok_lim hc)
  unfold le; omega
/-- Paying one by one from nothing: just where the ledger is valid, and then its total. -/
theorem run_good {c d : Int} (hc : ok c d = true) (fs : List (Int × Int)) : run c d (0, 1) 0 fs = if good c d fs then some (total c d fs) else none := by
  rw [run_eq hc fs (0, 1) 0 (by decide) (by omega) (le_zero hc), Nat.zero_add]
  by_cases h8 : fs.length ≤ 8
  · rw [if_pos h8]
    cases ht : tot (0, 1) fs with
    | none => simp [good, fits, ht]
    | some u =>
      by_cases hk : cmp u.1 u.2 c d ≤ 0
      · have hg : good c d fs = true := by simp [good, fits, ht, hk, hc, h8]
        rw [hg]; simp [total, hg, ht, hk]
      · have hg : good c d fs = false := by simp [good, fits, ht, hk]
        rw [hg]; simp [hk]
  · have hg : good c d fs = false := by simp [good, h8]
    rw [if_neg h8, hg]; rfl
theorem good_of {c d : Int} {fs : List (Int × Int)} {t : Int × Int} (hc : ok c d = true) (h : run c d (0, 1) 0 fs = some t) : good c d fs = true ∧ total c d fs = t := by
  rw [run_good hc] at h
  cases hg : good c d fs
  · rw [hg] at h; cases h
  · rw [hg, if_pos rfl] at h
    injection h with h
    exact ⟨rfl, h⟩
theorem good_no {c d : Int} {fs : List (Int × Int)} (hc : ok c d = true) (h : run c d (0, 1) 0 fs = none) : good c d fs = false := by
  rw [run_good hc] at h
  cases hg : good c d fs
  · rfl
  · rw [hg, if_pos rfl] at h; cases h
theorem good_cap {c d : Int} {fs : List (Int × Int)} (hc : ok c d = false) : good c d fs = false := by simp [good, hc]
theorem good_len {c d : Int} {fs : List (Int × Int)} (h : good c d fs = true) : ok c d = true ∧ fs.length ≤ 8 := by
  simp [good, and_assoc] at h; exact ⟨h.1, h.2.1⟩
theorem pays_m {c d : Int} {t f : Int × Int} {m : Nat} (h : pays c d t m f = true) : m ≠ 8 := by
  simp [pays, and_assoc] at h; exact h.2.1
/-- One charge more. -/
theorem good_snoc {c d : Int} {fs : List (Int × Int)} {f : Int × Int} (h : good c d fs = true) : good c d (fs ++ [f]) = pays c d (total c d fs) fs.length f ∧ (pays c d (total c d fs) fs.length f = true → total c d (fs ++ [f]) = (sN (total c d fs).1 (total c d fs).2 f.1 f.2, sD (total c d fs).1 (total c d fs).2 f.1 f.2)) := by
  obtain ⟨hc, -⟩ := good_len h
  have r := run_good hc fs
  rw [h, if_pos rfl] at r
  have r2 := run_snoc f r
  rw [Nat.zero_add] at r2
  cases hp : pays c d (total c d fs) fs.length f
  · rw [hp] at r2
    exact ⟨good_no hc r2, fun e => by cases e⟩
  · rw [hp, if_pos rfl] at r2
    obtain ⟨a, b⟩ := good_of hc r2
    exact ⟨a, fun _ => b⟩
/-- LedgerPay: whether it pays; the ledger behind it. -/
def may (c d : Int) (fs : List (Int × Int)) (x y : Int) : Bool := good c d fs && ok x y
def pB (c d : Int) (fs : List (Int × Int)) (x y : Int) : Bool := may c d fs x y && good c d (fs ++ [(x, y)])
def pC (c d : Int) (fs : List (Int × Int)) (x y : Int) : Int := if may c d fs x y then c else 0
def pD (c d : Int) (fs : List (Int × Int)) (x y : Int) : Int := if may c d fs x y then d else 0
def pL (c d : Int) (fs : List (Int × Int)) (x y : Int) : List (Int × Int) := if may c d fs x y then (if good c d (fs ++ [(x, y)]) then fs ++ [(x, y)] else fs) else []
theorem p_no {c d : Int} {fs : List (Int × Int)} {x y : Int} (h : may c d fs x y = false) : pB c d fs x y = false ∧ pC c d fs x y = 0 ∧ pD c d fs x y = 0 ∧ pL c d fs x y = [] := by simp [pB, pC, pD, pL, h]
theorem p_not {c d : Int} {fs : List (Int × Int)} {x y : Int} (h : may c d fs x y = true) (h2 : good c d (fs ++ [(x, y)]) = false) : pB c d fs x y = false ∧ pC c d fs x y = c ∧ pD c d fs x y = d ∧ pL c d fs x y = fs := by simp [pB, pC, pD, pL, h, h2]
theorem p_yes {c d : Int} {fs : List (Int × Int)} {x y : Int} (h : may c d fs x y = true) (h2 : good c d (fs ++ [(x, y)]) = true) : pB c d fs x y = true ∧ pC c d fs x y = c ∧ pD c d fs x y = d ∧ pL c d fs x y = fs ++ [(x, y)] := by simp [pB, pC, pD, pL, h, h2]
theorem may_g {c d : Int} {fs : List (Int × Int)} {x y : Int} (h : good c d fs = false) : may c d fs x y = false := by simp [may, h]
theorem may_f {c d : Int} {fs : List (Int × Int)} {x y : Int} (h : ok x y = false) : may c d fs x y = false := by simp [may, h]
theorem may_y {c d : Int} {fs : List (Int × Int)} {x y : Int} (h : good c d fs = true) (h2 : ok x y = true) : may c d fs x y = true := by simp [may, h, h2]
/-- The sum of charges alone. -/
def tB (fs : List (Int × Int)) : Bool := (tot (0, 1) fs).isSome
def tV (fs : List (Int × Int)) : Int × Int := (tot (0, 1) fs).getD (0, 0)
theorem t_some {fs : List (Int × Int)} {t : Int × Int} (h : tot (0, 1) fs = some t) : tB fs = true ∧ tV fs = t := by simp [tB, tV, h]
theorem t_none {fs : List (Int × Int)} (h : tot (0, 1) fs = none) : tB fs = false ∧ tV fs = (0, 0) := by simp [tB, tV, h]
theorem t_ok {fs : List (Int × Int)} (h : tB fs = true) : ok (tV fs).1 (tV fs).2 = true := by
  cases e : tot (0, 1) fs with
  | none => rw [(t_none e).1] at h; cases h
  | some t => rw [(t_some e).2]; exact (tot_ok (t := (0, 1)) ok01 e).1
theorem tot_snoc {fs : List (Int × Int)} {t f : Int × Int} (h : tot (0, 1) fs = some t) : tot (0, 1) (fs ++ [f]) = if sB t.1 t.2 f.1 f.2 then some (sN t.1 t.2 f.1 f.2, sD t.1 t.2 f.1 f.2) else none := by
  rw [tot_app, h]; simp [tot]
theorem tot_none {fs ys : List (Int × Int)} {t f : Int × Int} (h : tot (0, 1) fs = some t) (hp : sB t.1 t.2 f.1 f.2 = false) : tot (0, 1) (fs ++ f :: ys) = none := by
  rw [tot_app, h]; simp [tot, hp]
theorem good_is (c d : Int) (fs : List (Int × Int)) : good c d fs = (ok c d && decide (fs.length ≤ 8) && tB fs && decide (cmp (tV fs).1 (tV fs).2 c d ≤ 0)) := by
  unfold good fits
  cases e : tot (0, 1) fs with
  | none => simp [tB, e]
  | some t => simp [tB, tV, e]
theorem total_is {c d : Int} {fs : List (Int × Int)} (h : good c d fs = true) : total c d fs = tV fs ∧ tB fs = true := by
  have h' := h
  rw [good_is] at h'
  simp [and_assoc] at h'
  exact ⟨by simp [total, h, tV], h'.2.2.1⟩
end Go.Proofs.Ytigeffgehckbpab.Fr
