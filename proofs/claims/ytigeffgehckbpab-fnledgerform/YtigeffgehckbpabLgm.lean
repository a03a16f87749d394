/-
  Chapter 32, plain: what the promises about ledgers say of sums: no program is named here.
-/
import Derived.Test.YtigeffgehckbpabLg
namespace Go.Proofs.Ytigeffgehckbpab.Fr
set_option linter.unusedVariables false
theorem pL_len (c d : Int) (fs : List (Int × Int)) (x y : Int) : (pL c d fs x y).length ≤ fs.length + 1 := by
  unfold pL
  repeat' split
  all_goals simp
theorem pB_pays {c d x y : Int} {fs : List (Int × Int)} (hg : good c d fs = true) (ho : ok x y = true) : pB c d fs x y = (sB (total c d fs).1 (total c d fs).2 x y && decide (fs.length ≠ 8) && decide (cmp (sN (total c d fs).1 (total c d fs).2 x y) (sD (total c d fs).1 (total c d fs).2 x y) c d ≤ 0)) := by
  rw [pB, may_y hg ho, Bool.true_and, (good_snoc hg).1]
  rfl
theorem cap_good {c d p q : Int} {fs : List (Int × Int)} (hg : good c d fs = true) (hp : ok p q = true) (hl : le c d p q) : good p q fs = true := by
  rw [good_is] at hg ⊢
  simp only [Bool.and_eq_true, decide_eq_true_eq] at hg ⊢
  obtain ⟨⟨⟨h1, h2⟩, h3⟩, h4⟩ := hg
  have ht := t_ok h3
  exact ⟨⟨⟨hp, h2⟩, h3⟩, (cmp_le ht hp).2 (le_trans' ht h1 hp ((cmp_le ht h1).1 h4) hl)⟩
theorem cap_more {c d x y : Int} {fs : List (Int × Int)} {j : Nat} (h : pB c d fs x y = true) (hs : sB c d (j : Int) 1 = true) : pB (sN c d (j : Int) 1) (sD c d (j : Int) 1) fs x y = true := by
  obtain ⟨hl, hk⟩ := le_sum hs
  simp only [pB, may, Bool.and_eq_true] at h ⊢
  exact ⟨⟨cap_good h.1.1 hk hl, h.1.2⟩, cap_good h.2 hk hl⟩
theorem of_small {a b : Nat} (h1 : 1 ≤ a) (h2 : a ≤ 3) (h3 : 1 ≤ b) (h4 : b ≤ 4) : ofB (a : Int) (b : Int) = true := by
  have ha : a = 1 ∨ a = 2 ∨ a = 3 := by omega
  have hb : b = 1 ∨ b = 2 ∨ b = 3 ∨ b = 4 := by omega
  rcases ha with rfl | rfl | rfl <;> rcases hb with rfl | rfl | rfl | rfl <;> decide
/-- A ledger that is good has a total that is a fraction, and no more than may be. -/
theorem tot_good {c d : Int} {fs : List (Int × Int)} (h : good c d fs = true) : ok (total c d fs).1 (total c d fs).2 = true ∧ cmp (total c d fs).1 (total c d fs).2 c d ≤ 0 ∧ ok c d = true ∧ fs.length ≤ 8 := by
  obtain ⟨e1, e2⟩ := total_is h
  rw [e1]
  rw [good_is] at h
  simp only [Bool.and_eq_true, decide_eq_true_eq] at h
  exact ⟨t_ok e2, h.2, h.1.1.1, h.1.1.2⟩
theorem can_zero {c d : Int} {fs : List (Int × Int)} (hg : good c d fs = true) : pB c d fs 0 1 = decide (fs.length < 8) := by
  obtain ⟨h1, h2, h3, h4⟩ := tot_good hg
  rw [pB_pays hg ok01]
  obtain ⟨a, b, ea, eb, -, -, -, -⟩ := ok_nat h1
  rw [ea, eb] at h1 h2 ⊢
  obtain ⟨k1, k2, k3⟩ := s_zero' h1
  rw [k1, k2, k3, Bool.true_and, show decide (cmp (a : Int) (b : Int) c d ≤ 0) = true by simpa using h2, Bool.and_true]
  rw [Bool.eq_iff_iff]
  simp; omega
theorem le_shift {a b c d e f : Int} (h1 : sB a b c d = true) (h2 : sB a b e f = true) (hl : le c d e f) : le (sN a b c d) (sD a b c d) (sN a b e f) (sD a b e f) := by
  obtain ⟨k1, k2⟩ := s_two h1
  obtain ⟨-, k3⟩ := s_two h2
  obtain ⟨a, b, rfl, rfl, -, hb, -, -⟩ := ok_nat k1
  obtain ⟨c, d, rfl, rfl, -, hd, -, -⟩ := ok_nat k2
  obtain ⟨e, f, rfl, rfl, -, hf, -, -⟩ := ok_nat k3
  obtain ⟨-, -, p, q, e1, e2, h3, h4⟩ := s_get h1
  obtain ⟨-, -, p', q', e3, e4, h5, h6⟩ := s_get h2
  rw [e1, e2, e3, e4]
  have hl' : c * f ≤ e * d := by unfold le at hl; exact_mod_cast hl
  have key : (a * d + c * b) * (b * f) ≤ (a * f + e * b) * (b * d) := by
    calc (a * d + c * b) * (b * f) = a * d * (b * f) + (c * f) * (b * b) := by rw [Nat.add_mul]; congr 1; ac_rfl
      _ ≤ a * d * (b * f) + (e * d) * (b * b) := Nat.add_le_add_left (Nat.mul_le_mul_right _ hl') _
      _ = (a * f + e * b) * (b * d) := by rw [Nat.add_mul]; congr 1 <;> ac_rfl
  have : p * q' ≤ p' * q := by
    refine Nat.le_of_mul_le_mul_right (c := (b * d) * (b * f)) ?_ (Nat.mul_pos (Nat.mul_pos hb hd) (Nat.mul_pos hb hf))
    calc p * q' * ((b * d) * (b * f)) = (p * (b * d)) * (q' * (b * f)) := by ac_rfl
      _ = (a * d + c * b) * q * (q' * (b * f)) := by rw [h4]
      _ = ((a * d + c * b) * (b * f)) * (q * q') := by ac_rfl
      _ ≤ ((a * f + e * b) * (b * d)) * (q * q') := Nat.mul_le_mul_right _ key
      _ = ((a * f + e * b) * q') * (q * (b * d)) := by ac_rfl
      _ = (p' * (b * f)) * (q * (b * d)) := by rw [h6]
      _ = p' * q * ((b * d) * (b * f)) := by ac_rfl
  show (p : Int) * (q' : Int) ≤ (p' : Int) * (q : Int)
  exact_mod_cast this
/-- What can be paid can be paid of less, too. -/
theorem can_less {c d x y u v : Int} {fs : List (Int × Int)} (hp : pB c d fs x y = true) (ho : ok u v = true) (hs : sB (total c d fs).1 (total c d fs).2 u v = true) (hc : cmp u v x y ≤ 0) : pB c d fs u v = true := by
  have hp2 := hp
  simp only [pB, may, Bool.and_eq_true] at hp2
  obtain ⟨⟨hg, hx⟩, -⟩ := hp2
  obtain ⟨k1, k2, k3, k4⟩ := tot_good hg
  rw [pB_pays hg hx] at hp
  simp only [Bool.and_eq_true, decide_eq_true_eq] at hp
  obtain ⟨⟨h1, h2⟩, h3⟩ := hp
  rw [pB_pays hg ho]
  simp only [Bool.and_eq_true, decide_eq_true_eq]
  obtain ⟨-, o1⟩ := le_sum h1
  obtain ⟨-, o2⟩ := le_sum hs
  exact ⟨⟨hs, h2⟩, (cmp_le o2 k3).2 (le_trans' o2 o1 k3 (le_shift hs h1 ((cmp_le ho hx).1 hc)) ((cmp_le o1 k3).1 h3))⟩
theorem cross3 {a b c d e k p q r s : Nat} (hq : 0 < q) (e1 : p * (b * d) = (a * d + c * b) * q) (e2 : r * (q * k) = (p * k + e * q) * s) : r * (b * d * k) = (a * d * k + c * b * k + e * b * d) * s := by
  refine Nat.eq_of_mul_eq_mul_right hq ?_
  calc r * (b * d * k) * q = (r * (q * k)) * (b * d) := by ac_rfl
    _ = (p * k + e * q) * s * (b * d) := by rw [e2]
    _ = (p * (b * d)) * (k * s) + e * q * s * (b * d) := by rw [Nat.add_mul, Nat.add_mul]; congr 1; ac_rfl
    _ = (a * d + c * b) * q * (k * s) + e * q * s * (b * d) := by rw [e1]
    _ = (a * d * k + c * b * k + e * b * d) * s * q := by simp only [Nat.add_mul]; ac_rfl
/-- The order of two that are put to a sum does not matter. -/
theorem sum_swap {a b c d e k : Int} (h1 : sB a b c d = true) (h2 : sB (sN a b c d) (sD a b c d) e k = true) (h3 : sB a b e k = true) (h4 : sB (sN a b e k) (sD a b e k) c d = true) :
    sN (sN a b c d) (sD a b c d) e k = sN (sN a b e k) (sD a b e k) c d ∧ sD (sN a b c d) (sD a b c d) e k = sD (sN a b e k) (sD a b e k) c d := by
  obtain ⟨k1, k2⟩ := s_two h1
  obtain ⟨-, k3⟩ := s_two h3
  obtain ⟨a, b, rfl, rfl, -, hb, -, -⟩ := ok_nat k1
  obtain ⟨c, d, rfl, rfl, -, hd, -, -⟩ := ok_nat k2
  obtain ⟨e, k, rfl, rfl, -, hk, -, -⟩ := ok_nat k3
  obtain ⟨-, -, p, q, e1, e2, o1, g1⟩ := s_get h1
  obtain ⟨-, -, p', q', e3, e4, o2, g2⟩ := s_get h3
  rw [e1, e2] at h2 ⊢
  rw [e3, e4] at h4 ⊢
  obtain ⟨-, -, r, s, e5, e6, o3, g3⟩ := s_get h2
  obtain ⟨-, -, r', s', e7, e8, o4, g4⟩ := s_get h4
  rw [e5, e6, e7, e8]
  have c1 := cross3 (ok_bd o1).2.1 g1 g3
  have c2 := cross3 (ok_bd o2).2.1 g2 g4
  have hN : a * d * k + c * b * k + e * b * d = a * k * d + e * b * d + c * b * k := by
    rw [show a * k * d = a * d * k by ac_rfl, Nat.add_assoc, Nat.add_assoc, Nat.add_comm (c * b * k)]
  have hx : r * s' = r' * s := by
    refine Nat.eq_of_mul_eq_mul_right (Nat.mul_pos (Nat.mul_pos hb hd) hk) ?_
    calc r * s' * (b * d * k) = (r * (b * d * k)) * s' := by ac_rfl
      _ = (a * k * d + e * b * d + c * b * k) * s * s' := by rw [c1, hN]
      _ = ((a * k * d + e * b * d + c * b * k) * s') * s := by ac_rfl
      _ = (r' * (b * k * d)) * s := by rw [c2]
      _ = r' * s * (b * d * k) := by ac_rfl
  obtain ⟨x1, x2⟩ := uniq (ok_bd o3).2.1 (ok_bd o4).2.1 (ok_gcd o3) (ok_gcd o4) hx
  rw [x1, x2]
  exact ⟨rfl, rfl⟩
/-- What paying leaves. -/
theorem paid_all {c d x y : Int} {fs : List (Int × Int)} (h : pB c d fs x y = true) : good c d fs = true ∧ ok x y = true ∧ pC c d fs x y = c ∧ pD c d fs x y = d ∧ pL c d fs x y = fs ++ [(x, y)] ∧ good c d (fs ++ [(x, y)]) = true ∧ sB (total c d fs).1 (total c d fs).2 x y = true ∧ total c d (fs ++ [(x, y)]) = (sN (total c d fs).1 (total c d fs).2 x y, sD (total c d fs).1 (total c d fs).2 x y) := by
  have h2 := h
  simp only [pB, Bool.and_eq_true] at h2
  have h3 := h2.1
  simp only [may, Bool.and_eq_true] at h3
  obtain ⟨-, e2, e3, e4⟩ := p_yes h2.1 h2.2
  have pz := good_snoc (f := (x, y)) h3.1
  have pp := pz.1.symm.trans h2.2
  have pb := h
  rw [pB_pays h3.1 h3.2] at pb
  simp only [Bool.and_eq_true, decide_eq_true_eq] at pb
  exact ⟨h3.1, h3.2, e2, e3, e4, h2.2, pb.1.1, pz.2 pp⟩
/-- In whatever order two are paid all that was paid is the same. -/
theorem two_same {c d x y gn gd : Int} {fs : List (Int × Int)} (h0 : pB c d fs x y = true) (h1 : pB c d (fs ++ [(x, y)]) gn gd = true) (h2 : pB c d fs gn gd = true) (h3 : pB (pC c d fs gn gd) (pD c d fs gn gd) (pL c d fs gn gd) x y = true) :
    total (pC c d (fs ++ [(x, y)]) gn gd) (pD c d (fs ++ [(x, y)]) gn gd) (pL c d (fs ++ [(x, y)]) gn gd) = total (pC (pC c d fs gn gd) (pD c d fs gn gd) (pL c d fs gn gd) x y) (pD (pC c d fs gn gd) (pD c d fs gn gd) (pL c d fs gn gd) x y) (pL (pC c d fs gn gd) (pD c d fs gn gd) (pL c d fs gn gd) x y) := by
  obtain ⟨-, -, -, -, -, -, a7, a8⟩ := paid_all h0
  obtain ⟨-, -, b3, b4, b5, -, b7, b8⟩ := paid_all h1
  obtain ⟨-, -, c3, c4, c5, -, c7, c8⟩ := paid_all h2
  rw [c3, c4, c5] at h3
  obtain ⟨-, -, d3, d4, d5, -, d7, d8⟩ := paid_all h3
  rw [b3, b4, b5, c3, c4, c5, d3, d4, d5, b8, d8, a8, c8]
  rw [a8] at b7
  rw [c8] at d7
  obtain ⟨x1, x2⟩ := sum_swap a7 b7 c7 d7
  rw [x1, x2]
end Go.Proofs.Ytigeffgehckbpab.Fr
