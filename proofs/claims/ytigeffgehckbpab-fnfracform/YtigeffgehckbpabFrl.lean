/-
  Laws of fractions in lowest terms: plain, no program is named here.
-/
import Derived.Test.YtigeffgehckbpabFr
namespace Go.Proofs.Ytigeffgehckbpab.Fr
theorem rn_get {n d : Nat} (hd : 0 < d) (h : can n d = true) : ∃ p q : Nat, rn (can n d) n d = p ∧ rd (can n d) n d = q ∧ ok p q = true ∧ p * d = n * q := by
  refine ⟨num n d, den n d, ?_, ?_, ?_, cross n d⟩
  · rw [h]; rfl
  · rw [h]; rfl
  · rw [ok_low hd]; exact h
theorem rn_put {n d p q : Nat} (hd : 0 < d) (hk : ok p q = true) (e : p * d = n * q) : can n d = true ∧ num n d = p ∧ den n d = q := by
  obtain ⟨a, b, e1, e2, h1, h2, h3, h4⟩ := ok_nat hk
  obtain rfl : p = a := by omega
  obtain rfl : q = b := by omega
  obtain ⟨k1, k2⟩ := same (n := n) (d := d) (n' := p) (d' := q) hd h2 e.symm
  rw [num_of h4] at k1
  rw [den_of h4] at k2
  exact ⟨by rw [can_iff, k1, k2]; exact ⟨h1, h3⟩, k1, k2⟩
theorem s_get {a b c d : Nat} (h : sB a b c d = true) : ok a b = true ∧ ok c d = true ∧ ∃ p q : Nat, sN a b c d = p ∧ sD a b c d = q ∧ ok p q = true ∧ p * (b * d) = (a * d + c * b) * q := by
  have ht : two a b c d = true := by cases e : two a b c d; (· rw [(s_no e).1] at h; exact h); rfl
  obtain ⟨h1, h2⟩ := two_iff.1 ht
  obtain ⟨a1, b1, e1, e2, _, hb, _⟩ := ok_nat h1
  obtain ⟨a2, b2, e3, e4, _, hd, _⟩ := ok_nat h2
  obtain ⟨k1, k2, k3⟩ := s_yes ht
  rw [k1] at h
  rw [k2, k3]
  exact ⟨h1, h2, rn_get (Nat.mul_pos (by omega) (by omega)) h⟩
theorem s_put {a b c d p q : Nat} (h1 : ok a b = true) (h2 : ok c d = true) (h3 : ok p q = true) (h : p * (b * d) = (a * d + c * b) * q) : sB a b c d = true ∧ sN a b c d = p ∧ sD a b c d = q := by
  obtain ⟨a1, b1, e1, e2, _, hb, _⟩ := ok_nat h1
  obtain ⟨a2, b2, e3, e4, _, hd, _⟩ := ok_nat h2
  obtain ⟨k1, k2, k3⟩ := s_yes (two_iff.2 ⟨h1, h2⟩)
  obtain ⟨c1, c2, c3⟩ := rn_put (Nat.mul_pos (n := b) (m := d) (by omega) (by omega)) h3 h
  rw [k1, k2, k3, c1, rn_t, rd_t, c2, c3]
  exact ⟨rfl, rfl, rfl⟩
theorem of_get {n d : Nat} (h : ofB n d = true) : 0 < d ∧ n ≤ 99999 ∧ d ≤ 99999 ∧ ∃ p q : Nat, ofN n d = p ∧ ofD n d = q ∧ ok p q = true ∧ p * d = n * q := by
  have ht : ofOk n d = true := by cases e : ofOk n d; (· rw [(ofB_no e).1] at h; exact h); rfl
  obtain ⟨_, g1, g2, g3⟩ := ofOk_iff.1 ht
  obtain ⟨k1, k2, k3⟩ := ofB_yes ht
  rw [k1] at h
  rw [k2, k3]
  exact ⟨by omega, by omega, by omega, rn_get (by omega) h⟩
theorem of_put {n d p q : Nat} (h : ofOk n d = true) (hk : ok p q = true) (e : p * d = n * q) : ofB n d = true ∧ ofN n d = p ∧ ofD n d = q := by
  obtain ⟨_, g1, g2, g3⟩ := ofOk_iff.1 h
  obtain ⟨k1, k2, k3⟩ := ofB_yes h
  obtain ⟨c1, c2, c3⟩ := rn_put (d := d) (by omega) hk e
  rw [k1, k2, k3, c1, rn_t, rd_t, c2, c3]
  exact ⟨rfl, rfl, rfl⟩
theorem s_comm {a b c d : Nat} (h : sB a b c d = true) : sB c d a b = true ∧ sN c d a b = sN a b c d ∧ sD c d a b = sD a b c d := by
  obtain ⟨h1, h2, p, q, e1, e2, h3, h4⟩ := s_get h
  rw [e1, e2]
  exact s_put h2 h1 h3 (by rw [Nat.mul_comm d b, h4, Nat.add_comm])
theorem ok01 : ok 0 1 = true := by decide
theorem s_zero {a b : Nat} (h : ok a b = true) : sB a b (0 : Nat) (1 : Nat) = true ∧ sN a b (0 : Nat) (1 : Nat) = a ∧ sD a b (0 : Nat) (1 : Nat) = b :=
  s_put h ok01 h (by simp)
theorem ok_bd {a b : Nat} (h : ok a b = true) : a ≤ 999 ∧ 0 < b ∧ b ≤ 60 := by
  obtain ⟨h1, h2, h3, h4⟩ := lim_iff.1 (ok_lim h)
  omega
theorem ok_gcd {a b : Nat} (h : ok a b = true) : a.gcd b = 1 := by
  obtain ⟨x, y, e1, e2, _, _, _, h4⟩ := ok_nat h
  obtain rfl : a = x := by omega
  obtain rfl : b = y := by omega
  exact h4
/-- Comparing, over natural numbers. -/
theorem c_lt {a b c d : Nat} (h1 : ok a b = true) (h2 : ok c d = true) (k : a * d < c * b) : cmp a b c d = -1 := cmp_lt (two_iff.2 ⟨h1, h2⟩) (by exact_mod_cast k)
theorem c_gt {a b c d : Nat} (h1 : ok a b = true) (h2 : ok c d = true) (k : c * b < a * d) : cmp a b c d = 1 := cmp_gt (two_iff.2 ⟨h1, h2⟩) (by exact_mod_cast k)
theorem c_eq {a b c d : Nat} (h1 : ok a b = true) (h2 : ok c d = true) (k : a * d = c * b) : cmp a b c d = 0 := cmp_eq (two_iff.2 ⟨h1, h2⟩) (by exact_mod_cast k)
theorem c_lt_iff {a b c d : Nat} (h1 : ok a b = true) (h2 : ok c d = true) : cmp a b c d = -1 ↔ a * d < c * b := by
  rcases Nat.lt_trichotomy (a * d) (c * b) with k | k | k
  · simp [c_lt h1 h2 k, k]
  · simp [c_eq h1 h2 k, k]
  · simp [c_gt h1 h2 k]; omega
theorem c_of {a b c d a' b' c' d' : Nat} (h1 : ok a b = true) (h2 : ok c d = true) (h3 : ok a' b' = true) (h4 : ok c' d' = true)
    (k1 : a * d < c * b → a' * d' < c' * b') (k2 : c * b < a * d → c' * b' < a' * d') (k3 : a * d = c * b → a' * d' = c' * b') : cmp a' b' c' d' = cmp a b c d := by
  rcases Nat.lt_trichotomy (a * d) (c * b) with k | k | k
  · rw [c_lt h1 h2 k, c_lt h3 h4 (k1 k)]
  · rw [c_eq h1 h2 k, c_eq h3 h4 (k3 k)]
  · rw [c_gt h1 h2 k, c_gt h3 h4 (k2 k)]
theorem c_neg {a b c d : Nat} (h1 : ok a b = true) (h2 : ok c d = true) : cmp c d a b = - cmp a b c d := by
  rcases Nat.lt_trichotomy (a * d) (c * b) with k | k | k
  · rw [c_lt h1 h2 k, c_gt h2 h1 k]; rfl
  · rw [c_eq h1 h2 k, c_eq h2 h1 k.symm]; rfl
  · rw [c_gt h1 h2 k, c_lt h2 h1 k]
theorem c_range (a b c d : Int) : cmp a b c d = -1 ∨ cmp a b c d = 0 ∨ cmp a b c d = 1 := by
  unfold cmp; split
  · split
    · simp
    · split <;> simp
  · simp
theorem c_zero {a b c d : Nat} (h1 : ok a b = true) (h2 : ok c d = true) (h : cmp a b c d = 0) : a = c ∧ b = d := by
  rcases Nat.lt_trichotomy (a * d) (c * b) with k | k | k
  · rw [c_lt h1 h2 k] at h; omega
  · exact uniq (ok_bd h1).2.1 (ok_bd h2).2.1 (ok_gcd h1) (ok_gcd h2) k
  · rw [c_gt h1 h2 k] at h; omega
theorem c_self {a b : Nat} (h1 : ok a b = true) : cmp a b a b = 0 := c_eq h1 h1 rfl
/-- A sum is no less. -/
theorem c_more {a b c d p q : Nat} (hd : 0 < d) (h : p * (b * d) = (a * d + c * b) * q) : a * q ≤ p * b := by
  refine Nat.le_of_mul_le_mul_right (c := d) ?_ hd
  calc a * q * d = a * d * q := by ac_rfl
    _ ≤ (a * d + c * b) * q := Nat.mul_le_mul_right _ (Nat.le_add_right _ _)
    _ = p * b * d := by rw [← h, Nat.mul_assoc]
theorem c_ge {a b c d p q : Nat} (h1 : ok a b = true) (h2 : ok c d = true) (h3 : ok p q = true) (h : p * (b * d) = (a * d + c * b) * q) : 0 ≤ cmp p q a b := by
  have k := c_more (ok_bd h2).2.1 h
  rcases Nat.lt_or_ge (a * q) (p * b) with g | g
  · rw [c_gt h3 h1 g]; omega
  · rw [c_eq h3 h1 (by omega)]; omega
/-- With as much more on both sides the comparison is the same. -/
theorem c_shift {a b c d k p q p' q' : Nat} (h1 : ok a b = true) (h2 : ok c d = true) (h3 : ok p q = true) (h4 : ok p' q' = true)
    (e1 : p * (b * 1) = (a * 1 + k * b) * q) (e2 : p' * (d * 1) = (c * 1 + k * d) * q') : cmp p q p' q' = cmp a b c d := by
  have hb := (ok_bd h1).2.1
  have hd := (ok_bd h2).2.1
  have hq := (ok_bd h3).2.1
  have hq' := (ok_bd h4).2.1
  have hbd := Nat.mul_pos hb hd
  have hqq := Nat.mul_pos hq hq'
  rw [Nat.mul_one, Nat.mul_one] at e1 e2
  have l : p * q' * (b * d) = (a * d + k * (b * d)) * (q * q') := by
    calc p * q' * (b * d) = (p * b) * (q' * d) := by ac_rfl
      _ = (a + k * b) * q * (q' * d) := by rw [e1]
      _ = ((a + k * b) * d) * (q * q') := by ac_rfl
      _ = (a * d + k * (b * d)) * (q * q') := by rw [Nat.add_mul, Nat.mul_assoc k b d]
  have r : p' * q * (b * d) = (c * b + k * (b * d)) * (q * q') := by
    calc p' * q * (b * d) = (p' * d) * (q * b) := by ac_rfl
      _ = (c + k * d) * q' * (q * b) := by rw [e2]
      _ = ((c + k * d) * b) * (q * q') := by ac_rfl
      _ = (c * b + k * (b * d)) * (q * q') := by rw [Nat.add_mul, Nat.mul_assoc k d b, Nat.mul_comm d b]
  refine c_of h1 h2 h3 h4 (fun g => ?_) (fun g => ?_) (fun g => ?_)
  · refine Nat.lt_of_mul_lt_mul_right (a := b * d) ?_
    rw [l, r]; exact Nat.mul_lt_mul_of_pos_right (by omega) hqq
  · refine Nat.lt_of_mul_lt_mul_right (a := b * d) ?_
    rw [l, r]; exact Nat.mul_lt_mul_of_pos_right (by omega) hqq
  · refine Nat.eq_of_mul_eq_mul_right hbd ?_
    rw [l, r, g]
/-- What is less than what is less is less. -/
theorem c_trans {a b c d e f : Nat} (h1 : ok a b = true) (h2 : ok c d = true) (h3 : ok e f = true) (k1 : cmp a b c d = -1) (k2 : cmp c d e f = -1) : cmp a b e f = -1 := by
  rw [c_lt_iff h1 h2] at k1
  rw [c_lt_iff h2 h3] at k2
  rw [c_lt_iff h1 h3]
  have hb := (ok_bd h1).2.1
  have hd := (ok_bd h2).2.1
  have hf := (ok_bd h3).2.1
  refine Nat.lt_of_mul_lt_mul_right (a := d) ?_
  calc a * f * d = (a * d) * f := by ac_rfl
    _ < (c * b) * f := Nat.mul_lt_mul_of_pos_right k1 hf
    _ = (c * f) * b := by ac_rfl
    _ < (e * d) * b := Nat.mul_lt_mul_of_pos_right k2 hb
    _ = e * b * d := by ac_rfl
/-- Of three it does not matter which are put together first. -/
theorem s_assoc {a b c d e f x y z u s t v r : Nat} (hb : 0 < b) (hd : 0 < d) (hf : 0 < f) (hy : 0 < y) (hu : 0 < u) (k1 : ok s t = true) (k2 : ok v r = true)
    (e1 : x * (b * d) = (a * d + c * b) * y) (e2 : s * (y * f) = (x * f + e * y) * t) (e3 : z * (d * f) = (c * f + e * d) * u) (e4 : v * (b * u) = (a * u + z * b) * r) : s = v ∧ t = r := by
  refine uniq (ok_bd k1).2.1 (ok_bd k2).2.1 (ok_gcd k1) (ok_gcd k2) ?_
  refine Nat.eq_of_mul_eq_mul_right (m := (y * f * (b * d)) * (u * d)) (Nat.mul_pos (Nat.mul_pos (Nat.mul_pos hy hf) (Nat.mul_pos hb hd)) (Nat.mul_pos hu hd)) ?_
  have l : s * (y * f) * (b * d) = (a * d * f + c * b * f + e * b * d) * (y * t) := by
    calc s * (y * f) * (b * d) = (x * f + e * y) * t * (b * d) := by rw [e2]
      _ = x * (b * d) * (f * t) + e * b * d * (y * t) := by rw [Nat.add_mul, Nat.add_mul]; congr 1 <;> ac_rfl
      _ = (a * d + c * b) * y * (f * t) + e * b * d * (y * t) := by rw [e1]
      _ = (a * d * f + c * b * f + e * b * d) * (y * t) := by simp only [Nat.add_mul]; congr 1; congr 1 <;> ac_rfl
  have m : v * (b * u) * (d * f) = (a * d * f + c * b * f + e * b * d) * (u * r) := by
    calc v * (b * u) * (d * f) = (a * u + z * b) * r * (d * f) := by rw [e4]
      _ = a * d * f * (u * r) + z * (d * f) * (b * r) := by rw [Nat.add_mul, Nat.add_mul]; congr 1 <;> ac_rfl
      _ = a * d * f * (u * r) + (c * f + e * d) * u * (b * r) := by rw [e3]
      _ = (a * d * f + c * b * f + e * b * d) * (u * r) := by simp only [Nat.add_mul, Nat.add_assoc]; congr 1; congr 1 <;> ac_rfl
  calc s * r * (y * f * (b * d) * (u * d)) = s * (y * f) * (b * d) * (r * u * d) := by ac_rfl
    _ = (a * d * f + c * b * f + e * b * d) * (y * t) * (r * u * d) := by rw [l]
    _ = (a * d * f + c * b * f + e * b * d) * (u * r) * (y * t * d) := by ac_rfl
    _ = v * (b * u) * (d * f) * (y * t * d) := by rw [m]
    _ = v * t * (y * f * (b * d) * (u * d)) := by ac_rfl
/-- Twice as much. -/
theorem s_twice {a b : Nat} (h : ok a b = true) : sB a b a b = ofB (2 * a : Nat) b ∧ sN a b a b = ofN (2 * a : Nat) b ∧ sD a b a b = ofD (2 * a : Nat) b := by
  obtain ⟨g1, g2, g3⟩ := ok_bd h
  have ht : ofOk (2 * a : Nat) b = true := ofOk_iff.2 ⟨by omega, by omega, by omega, by omega⟩
  obtain ⟨k1, k2, k3⟩ := ofB_yes ht
  obtain ⟨l1, l2, l3⟩ := s_yes (two_iff.2 ⟨h, h⟩)
  obtain ⟨m1, m2⟩ := same (n := a * b + a * b) (d := b * b) (n' := 2 * a) (d' := b) (Nat.mul_pos g2 g2) g2 (by rw [← Nat.two_mul]; ac_rfl)
  have e : can (a * b + a * b) (b * b) = can (2 * a) b := by rw [can, can, m1, m2]
  rw [k1, k2, k3, l1, l2, l3, e]
  exact ⟨rfl, by rw [rn, rn, m1], by rw [rd, rd, m2]⟩
/-- Both numbers so many times as much. -/
theorem of_times {a b k : Nat} (hk : 0 < k) (h : ofB a b = true) (h1 : a * k ≤ 99999) (h2 : b * k ≤ 99999) : ofB (a * k : Nat) (b * k : Nat) = true ∧ ofN (a * k : Nat) (b * k : Nat) = ofN a b ∧ ofD (a * k : Nat) (b * k : Nat) = ofD a b := by
  obtain ⟨g1, g2, g3, p, q, e1, e2, h3, h4⟩ := of_get h
  rw [e1, e2]
  have := Nat.mul_pos g1 hk
  refine of_put (ofOk_iff.2 ⟨by omega, by omega, by omega, by omega⟩) h3 ?_
  rw [← Nat.mul_assoc, h4]; ac_rfl
/-- Nothing above 1 goes into both. -/
theorem none_both {p q d : Nat} (h : ok p q = true) (hd : 2 ≤ d) (h1 : p % d = 0) (h2 : q % d = 0) : False := by
  have := Nat.dvd_gcd (Nat.dvd_of_mod_eq_zero h1) (Nat.dvd_of_mod_eq_zero h2)
  rw [ok_gcd h] at this
  have := Nat.le_of_dvd (by omega) this
  omega
theorem ok_double {p q : Nat} (h : ok p q = true) : ok (2 * p : Nat) (2 * q : Nat) = false := by
  cases e : lim (2 * p : Nat) (2 * q : Nat)
  · exact ok_not_lim e
  · rw [ok_is e, decide_eq_false_iff_not, Nat.gcd_mul_left, ok_gcd h]; omega
theorem prod_bd {a b A B : Nat} (a1 : a ≤ A) (b1 : b ≤ B) : 0 ≤ (a : Int) * (b : Int) ∧ (a : Int) * (b : Int) ≤ ((A * B : Nat) : Int) := by
  have h : a * b ≤ A * B := Nat.mul_le_mul a1 b1
  have e : (a : Int) * (b : Int) = ((a * b : Nat) : Int) := by push_cast; rfl
  rw [e]; omega
theorem cmp_sign {a b c d : Int} (h : two a b c d = true) : cmp a b c d = if a * d - c * b < 0 then -1 else if 0 < a * d - c * b then 1 else 0 := by
  rcases Int.lt_trichotomy (a * d) (c * b) with k | k | k
  · rw [cmp_lt h k, if_pos (by omega)]
  · rw [cmp_eq h k, if_neg (by omega), if_neg (by omega)]
  · rw [cmp_gt h k, if_neg (by omega), if_pos (by omega)]
theorem s_two {a b c d : Int} (h : sB a b c d = true) : ok a b = true ∧ ok c d = true := by
  cases e : two a b c d
  · rw [(s_no e).1] at h; cases h
  · exact two_iff.1 e
theorem s_zero' {a b : Nat} (h : ok a b = true) : sB a b 0 1 = true ∧ sN a b 0 1 = a ∧ sD a b 0 1 = b := s_zero h
theorem s_twice' {a b : Nat} (h : ok a b = true) : sB a b a b = ofB (2 * (a : Int)) b ∧ sN a b a b = ofN (2 * (a : Int)) b ∧ sD a b a b = ofD (2 * (a : Int)) b := by
  have e : ((2 * a : Nat) : Int) = 2 * (a : Int) := by push_cast; rfl
  rw [← e]; exact s_twice h
theorem exact_i {a b c d p q : Nat} (h : p * (b * d) = (a * d + c * b) * q) : (p : Int) * (b : Int) * (d : Int) = ((a : Int) * (d : Int) + (c : Int) * (b : Int)) * (q : Int) := by
  have h' : p * b * d = (a * d + c * b) * q := by rw [Nat.mul_assoc]; exact h
  exact_mod_cast h'
theorem prod3_bd {a b c A B C : Nat} (a1 : a ≤ A) (b1 : b ≤ B) (c1 : c ≤ C) : 0 ≤ (a : Int) * (b : Int) * (c : Int) ∧ (a : Int) * (b : Int) * (c : Int) ≤ ((A * B * C : Nat) : Int) := by
  have h : a * b * c ≤ A * B * C := Nat.mul_le_mul (Nat.mul_le_mul a1 b1) c1
  have e : (a : Int) * (b : Int) * (c : Int) = ((a * b * c : Nat) : Int) := by push_cast; rfl
  rw [e]; omega
theorem c_zero_eq {a b c d : Nat} (h1 : ok a b = true) (h2 : ok c d = true) : (((a : Int) == (c : Int)) && ((b : Int) == (d : Int))) = (cmp a b c d == 0) := by
  by_cases h : cmp a b c d = 0
  · obtain ⟨e1, e2⟩ := c_zero h1 h2 h
    rw [h, e1, e2]; simp
  · have : ¬ ((a : Int) = c ∧ (b : Int) = d) := by
      rintro ⟨e1, e2⟩
      obtain rfl : a = c := by omega
      obtain rfl : b = d := by omega
      exact h (c_self h1)
    rw [beq_eq_false_iff_ne.2 h, Bool.eq_false_iff]
    simpa using this
theorem of_int {k : Nat} (h : k ≤ 999) : ofB (k : Int) 1 = true ∧ ofN (k : Int) 1 = k ∧ ofD (k : Int) 1 = 1 := by
  have hk : ok k (1 : Nat) = true := ok_of h (by omega) (by omega) (Nat.gcd_one_right k)
  exact of_put (n := k) (d := 1) (p := k) (q := 1) (ofOk_iff.2 ⟨by omega, by omega, by omega, by omega⟩) hk rfl
theorem ok_int {k : Nat} (h : k ≤ 999) : ok k 1 = true := ok_of (b := 1) h (by omega) (by omega) (Nat.gcd_one_right k)
/-- With a whole number more on both sides. -/
theorem shift_i {a b c d k : Nat} (h1 : ok a b = true) (h2 : ok c d = true) (hx : sB a b k 1 = true) (hy : sB c d k 1 = true) : cmp (sN a b k 1) (sD a b k 1) (sN c d k 1) (sD c d k 1) = cmp a b c d := by
  obtain ⟨-, -, p, q, e1, e2, h3, h4⟩ := s_get (a := a) (b := b) (c := k) (d := 1) hx
  obtain ⟨-, -, p', q', e3, e4, h5, h6⟩ := s_get (a := c) (b := d) (c := k) (d := 1) hy
  have e1' : sN a b k 1 = p := e1
  have e2' : sD a b k 1 = q := e2
  have e3' : sN c d k 1 = p' := e3
  have e4' : sD c d k 1 = q' := e4
  rw [e1', e2', e3', e4']
  exact c_shift h1 h2 h3 h5 h4 h6
theorem trans_i {a b c d e f : Int} (h1 : ok a b = true) (h2 : ok c d = true) (h3 : ok e f = true) (k1 : cmp a b c d = -1) (k2 : cmp c d e f = -1) : cmp a b e f = -1 := by
  obtain ⟨a, b, rfl, rfl, -, -, -, -⟩ := ok_nat h1
  obtain ⟨c, d, rfl, rfl, -, -, -, -⟩ := ok_nat h2
  obtain ⟨e, f, rfl, rfl, -, -, -, -⟩ := ok_nat h3
  exact c_trans h1 h2 h3 k1 k2
theorem of_ok {n d : Nat} (h : ofB n d = true) : ok (ofN n d) (ofD n d) = true := by
  obtain ⟨-, -, -, p, q, e1, e2, h3, -⟩ := of_get h
  rw [e1, e2]; exact h3
theorem of_nats {n d : Int} (h : ofB n d = true) : ∃ a b : Nat, n = a ∧ d = b ∧ 0 < b := by
  cases e : ofOk n d
  · rw [(ofB_no e).1] at h; cases h
  · obtain ⟨a, b, h1, h2, -, h3, -⟩ := of_nat e
    exact ⟨a, b, h1, h2, h3⟩
theorem of_times' {a b j : Nat} (h : ofB a b = true) (h1 : a ≤ 59) (h2 : b ≤ 59) (hj : j < 20) : ofB ((a : Int) * (1 + (j : Int))) ((b : Int) * (1 + (j : Int))) = true ∧ ofN ((a : Int) * (1 + (j : Int))) ((b : Int) * (1 + (j : Int))) = ofN a b ∧ ofD ((a : Int) * (1 + (j : Int))) ((b : Int) * (1 + (j : Int))) = ofD a b := by
  have e1 : ((a * (1 + j) : Nat) : Int) = (a : Int) * (1 + (j : Int)) := by push_cast; rfl
  have e2 : ((b * (1 + j) : Nat) : Int) = (b : Int) * (1 + (j : Int)) := by push_cast; rfl
  have k1 : a * (1 + j) ≤ 59 * 20 := Nat.mul_le_mul h1 (by omega)
  have k2 : b * (1 + j) ≤ 59 * 20 := Nat.mul_le_mul h2 (by omega)
  rw [← e1, ← e2]
  exact of_times (by omega) h (by omega) (by omega)
/-- Three put together in either way, where all sums are fractions. -/
theorem three_same {a b c d e f p q u v x y z t : Int} (h1 : sB a b c d = true) (e1 : sN a b c d = p) (e2 : sD a b c d = q) (h2 : sB p q e f = true) (h3 : sB c d e f = true) (e3 : sN c d e f = u) (e4 : sD c d e f = v) (h4 : sB a b u v = true)
    (e5 : sN p q e f = x) (e6 : sD p q e f = y) (e7 : sN a b u v = z) (e8 : sD a b u v = t) : x = z ∧ y = t := by
  obtain ⟨k1, k2⟩ := s_two h1
  obtain ⟨k3, k4⟩ := s_two h3
  obtain ⟨a, b, rfl, rfl, -, hb, -, -⟩ := ok_nat k1
  obtain ⟨c, d, rfl, rfl, -, hd, -, -⟩ := ok_nat k2
  obtain ⟨e, f, rfl, rfl, -, hf, -, -⟩ := ok_nat k4
  obtain ⟨-, -, p', q', g1, g2, g3, g4⟩ := s_get h1
  obtain rfl : p = p' := e1.symm.trans g1
  obtain rfl : q = q' := e2.symm.trans g2
  obtain ⟨-, -, u', v', i1, i2, i3, i4⟩ := s_get h3
  obtain rfl : u = u' := e3.symm.trans i1
  obtain rfl : v = v' := e4.symm.trans i2
  obtain ⟨-, -, x', y', j1, j2, j3, j4⟩ := s_get h2
  obtain ⟨-, -, z', t', l1, l2, l3, l4⟩ := s_get h4
  obtain ⟨m1, m2⟩ := s_assoc hb hd hf (ok_bd g3).2.1 (ok_bd i3).2.1 j3 l3 g4 j4 i4 l4
  rw [← e5, ← e6, ← e7, ← e8, j1, j2, l1, l2, m1, m2]; exact ⟨rfl, rfl⟩
end Go.Proofs.Ytigeffgehckbpab.Fr
