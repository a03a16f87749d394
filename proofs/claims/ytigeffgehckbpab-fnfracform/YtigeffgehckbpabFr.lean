/-
  Plain arithmetic of fractions in lowest terms, as the document's chapter 31 has it: no program is named here.
-/
namespace Go.Proofs.Ytigeffgehckbpab.Fr
/-- The two numbers of a quotient in lowest terms. -/
def num (n d : Nat) : Nat := n / n.gcd d
def den (n d : Nat) : Nat := d / n.gcd d
theorem gpos {n d : Nat} (h : 0 < d) : 0 < n.gcd d := Nat.gcd_pos_of_pos_right n h
theorem num_mul (n d : Nat) : num n d * n.gcd d = n := Nat.div_mul_cancel (Nat.gcd_dvd_left n d)
theorem den_mul (n d : Nat) : den n d * n.gcd d = d := Nat.div_mul_cancel (Nat.gcd_dvd_right n d)
theorem den_pos {n d : Nat} (h : 0 < d) : 0 < den n d := by
  have := den_mul n d
  rcases Nat.eq_zero_or_pos (den n d) with h0 | h0
  · rw [h0] at this; omega
  · exact h0
theorem num_le (n d : Nat) : num n d ≤ n := Nat.div_le_self _ _
theorem den_le (n d : Nat) : den n d ≤ d := Nat.div_le_self _ _
theorem cop {n d : Nat} (h : 0 < d) : (num n d).gcd (den n d) = 1 := Nat.coprime_div_gcd_div_gcd (gpos h)
theorem num_of {n d : Nat} (h : n.gcd d = 1) : num n d = n := by simp [num, h]
theorem den_of {n d : Nat} (h : n.gcd d = 1) : den n d = d := by simp [den, h]
/-- Two of one value in lowest terms are the same. -/
theorem uniq {a b c d : Nat} (hb : 0 < b) (hd : 0 < d) (h1 : a.gcd b = 1) (h2 : c.gcd d = 1) (h : a * d = c * b) : a = c ∧ b = d := by
  have k1 : b ∣ d := Nat.Coprime.dvd_of_dvd_mul_left (k := b) (m := a) (n := d) (by rw [Nat.Coprime, Nat.gcd_comm]; exact h1) ⟨c, by rw [h, Nat.mul_comm]⟩
  have k2 : d ∣ b := Nat.Coprime.dvd_of_dvd_mul_left (k := d) (m := c) (n := b) (by rw [Nat.Coprime, Nat.gcd_comm]; exact h2) ⟨a, by rw [← h, Nat.mul_comm]⟩
  have e : b = d := Nat.dvd_antisymm k1 k2
  subst e
  exact ⟨Nat.eq_of_mul_eq_mul_right hb h, rfl⟩
theorem cross (n d : Nat) : num n d * d = n * den n d := by
  have h1 := num_mul n d
  have h2 := den_mul n d
  calc num n d * d = num n d * (den n d * n.gcd d) := by rw [h2]
    _ = (num n d * n.gcd d) * den n d := by rw [Nat.mul_comm (den n d), Nat.mul_assoc]
    _ = n * den n d := by rw [h1]
theorem same {n d n' d' : Nat} (hd : 0 < d) (hd' : 0 < d') (h : n * d' = n' * d) : num n d = num n' d' ∧ den n d = den n' d' := by
  refine uniq (den_pos hd) (den_pos hd') (cop hd) (cop hd') ?_
  have c1 := cross n d
  have c2 := cross n' d'
  refine Nat.eq_of_mul_eq_mul_right (Nat.mul_pos hd hd') ?_
  calc num n d * den n' d' * (d * d') = (num n d * d) * (den n' d' * d') := by ac_rfl
    _ = n * den n d * (den n' d' * d') := by rw [c1]
    _ = (n * d') * (den n d * den n' d') := by ac_rfl
    _ = (n' * d) * (den n d * den n' d') := by rw [h]
    _ = (n' * den n' d') * (den n d * d) := by ac_rfl
    _ = (num n' d' * d') * (den n d * d) := by rw [c2]
    _ = num n' d' * den n d * (d * d') := by ac_rfl
/-- A fraction is within the limits; it is valid. -/
def lim (n d : Int) : Bool := decide (0 ≤ n) && decide (n ≤ 999) && decide (1 ≤ d) && decide (d ≤ 60)
def ok (n d : Int) : Bool := lim n d && decide (n.toNat.gcd d.toNat = 1)
theorem lim_iff {n d : Int} : lim n d = true ↔ 0 ≤ n ∧ n ≤ 999 ∧ 1 ≤ d ∧ d ≤ 60 := by simp [lim, and_assoc]
theorem lim_not {n d : Int} (h : ¬ (0 ≤ n ∧ n ≤ 999 ∧ 1 ≤ d ∧ d ≤ 60)) : lim n d = false := by
  cases e : lim n d
  · rfl
  · exact absurd (lim_iff.1 e) h
theorem ok_not_lim {n d : Int} (h : lim n d = false) : ok n d = false := by simp [ok, h]
theorem ok_lim {n d : Int} (h : ok n d = true) : lim n d = true := by
  cases e : lim n d
  · rw [ok_not_lim e] at h; exact h
  · rfl
/-- A valid fraction, as natural numbers. -/
theorem ok_nat {n d : Int} (h : ok n d = true) : ∃ a b : Nat, n = a ∧ d = b ∧ a ≤ 999 ∧ 0 < b ∧ b ≤ 60 ∧ a.gcd b = 1 := by
  obtain ⟨h1, h2, h3, h4⟩ := lim_iff.1 (ok_lim h)
  refine ⟨n.toNat, d.toNat, by omega, by omega, by omega, by omega, by omega, ?_⟩
  simp [ok] at h
  exact h.2
theorem ok_of {a b : Nat} (h1 : a ≤ 999) (h2 : 0 < b) (h3 : b ≤ 60) (h : a.gcd b = 1) : ok a b = true := by
  have : lim a b = true := lim_iff.2 ⟨by omega, by omega, by omega, by omega⟩
  simp [ok, this, h]
theorem ok_is {a b : Nat} (h : lim a b = true) : ok a b = decide (a.gcd b = 1) := by simp [ok, h]
/-- A fraction within the limits is as it is in lowest terms, if nothing above 1 goes into both. -/
theorem low_is {a b : Nat} (h : lim a b = true) : (((num a b : Nat) : Int) == (a : Int) && ((den a b : Nat) : Int) == (b : Int)) = ok a b := by
  rw [ok_is h]
  obtain ⟨h1, h2, h3, h4⟩ := lim_iff.1 h
  have hm := den_mul a b
  by_cases hg : a.gcd b = 1
  · simp [num_of hg, den_of hg, hg]
  · have hb : den a b ≠ b := by
      intro e
      rw [e] at hm
      have : a.gcd b = 1 := Nat.eq_of_mul_eq_mul_left (n := b) (by omega) (by rw [hm, Nat.mul_one])
      exact hg this
    have hb' : ((den a b : Nat) : Int) ≠ (b : Int) := by omega
    rw [beq_eq_false_iff_ne.2 hb', Bool.and_false, decide_eq_false hg]
theorem lim_nat {n d : Int} (h : lim n d = true) : ∃ a b : Nat, n = a ∧ d = b ∧ a ≤ 999 ∧ 0 < b ∧ b ≤ 60 := by
  obtain ⟨h1, h2, h3, h4⟩ := lim_iff.1 h
  exact ⟨n.toNat, d.toNat, by omega, by omega, by omega, by omega, by omega⟩
/-- A quotient is a valid fraction. -/
def can (n d : Nat) : Bool := decide (num n d ≤ 999) && decide (den n d ≤ 60)
theorem lim_low {n d : Nat} (h : 0 < d) : lim (num n d) (den n d) = can n d := by
  have := den_pos (n := n) h
  rw [Bool.eq_iff_iff, lim_iff]
  simp [can]; omega
theorem ok_low {n d : Nat} (h : 0 < d) : ok (num n d) (den n d) = can n d := by
  have e := lim_low (n := n) h
  have c := cop (n := n) h
  simp [ok, e, c]
theorem can_ok {n d : Nat} (h : ok n d = true) : can n d = true ∧ num n d = n ∧ den n d = d := by
  obtain ⟨a, b, e1, e2, h1, h2, h3, h4⟩ := ok_nat h
  obtain rfl : n = a := by omega
  obtain rfl : d = b := by omega
  have c1 := num_of h4
  have c2 := den_of h4
  exact ⟨by simp [can, c1, c2, h1, h3], c1, c2⟩
theorem can_iff {n d : Nat} : can n d = true ↔ num n d ≤ 999 ∧ den n d ≤ 60 := by simp [can]
/-- What a quotient gives, if it is a valid fraction. -/
def rn (c : Bool) (n d : Nat) : Int := if c then (num n d : Int) else 0
def rd (c : Bool) (n d : Nat) : Int := if c then (den n d : Int) else 0
theorem rn_t (n d : Nat) : rn true n d = (num n d : Int) := rfl
theorem rd_t (n d : Nat) : rd true n d = (den n d : Int) := rfl
theorem rn_f (n d : Nat) : rn false n d = 0 := rfl
theorem rd_f (n d : Nat) : rd false n d = 0 := rfl
/-- FracOf. -/
def ofOk (n d : Int) : Bool := decide (0 ≤ n) && decide (n ≤ 99999) && decide (1 ≤ d) && decide (d ≤ 99999)
theorem ofOk_iff {n d : Int} : ofOk n d = true ↔ 0 ≤ n ∧ n ≤ 99999 ∧ 1 ≤ d ∧ d ≤ 99999 := by simp [ofOk, and_assoc]
theorem ofOk_not {n d : Int} (h : ¬ (0 ≤ n ∧ n ≤ 99999 ∧ 1 ≤ d ∧ d ≤ 99999)) : ofOk n d = false := by
  cases e : ofOk n d
  · rfl
  · exact absurd (ofOk_iff.1 e) h
def ofB (n d : Int) : Bool := ofOk n d && can n.toNat d.toNat
def ofN (n d : Int) : Int := rn (ofB n d) n.toNat d.toNat
def ofD (n d : Int) : Int := rd (ofB n d) n.toNat d.toNat
theorem ofB_no {n d : Int} (h : ofOk n d = false) : ofB n d = false ∧ ofN n d = 0 ∧ ofD n d = 0 := by
  have e : ofB n d = false := by simp [ofB, h]
  exact ⟨e, by rw [ofN, e]; rfl, by rw [ofD, e]; rfl⟩
theorem ofB_yes {n d : Nat} (h : ofOk n d = true) : ofB n d = can n d ∧ ofN n d = rn (can n d) n d ∧ ofD n d = rd (can n d) n d := by
  have e : ofB n d = can n d := by simp [ofB, h]
  exact ⟨e, by rw [ofN, e]; rfl, by rw [ofD, e]; rfl⟩
theorem of_nat {n d : Int} (h : ofOk n d = true) : ∃ a b : Nat, n = a ∧ d = b ∧ a ≤ 99999 ∧ 0 < b ∧ b ≤ 99999 := by
  obtain ⟨h1, h2, h3, h4⟩ := ofOk_iff.1 h
  exact ⟨n.toNat, d.toNat, by omega, by omega, by omega, by omega, by omega⟩
/-- FracSum. -/
def two (a b c d : Int) : Bool := ok a b && ok c d
def sB (a b c d : Int) : Bool := two a b c d && can (a.toNat * d.toNat + c.toNat * b.toNat) (b.toNat * d.toNat)
def sN (a b c d : Int) : Int := rn (sB a b c d) (a.toNat * d.toNat + c.toNat * b.toNat) (b.toNat * d.toNat)
def sD (a b c d : Int) : Int := rd (sB a b c d) (a.toNat * d.toNat + c.toNat * b.toNat) (b.toNat * d.toNat)
theorem s_no {a b c d : Int} (h : two a b c d = false) : sB a b c d = false ∧ sN a b c d = 0 ∧ sD a b c d = 0 := by
  have e : sB a b c d = false := by simp [sB, h]
  exact ⟨e, by rw [sN, e]; rfl, by rw [sD, e]; rfl⟩
theorem s_yes {a b c d : Nat} (h : two a b c d = true) : sB a b c d = can (a * d + c * b) (b * d) ∧ sN a b c d = rn (can (a * d + c * b) (b * d)) (a * d + c * b) (b * d) ∧ sD a b c d = rd (can (a * d + c * b) (b * d)) (a * d + c * b) (b * d) := by
  have e : sB a b c d = can (a * d + c * b) (b * d) := by simp [sB, h]
  exact ⟨e, by rw [sN, e]; rfl, by rw [sD, e]; rfl⟩
theorem two_iff {a b c d : Int} : two a b c d = true ↔ ok a b = true ∧ ok c d = true := by simp [two]
/-- FracCmp. -/
def cmp (a b c d : Int) : Int := if two a b c d then (if a * d < c * b then -1 else if c * b < a * d then 1 else 0) else 0
theorem cmp_no {a b c d : Int} (h : two a b c d = false) : cmp a b c d = 0 := by simp [cmp, h]
theorem cmp_lt {a b c d : Int} (h : two a b c d = true) (k : a * d < c * b) : cmp a b c d = -1 := by simp [cmp, h, k]
theorem cmp_gt {a b c d : Int} (h : two a b c d = true) (k : c * b < a * d) : cmp a b c d = 1 := by
  have : ¬ a * d < c * b := by omega
  simp [cmp, h, k, this]
theorem cmp_eq {a b c d : Int} (h : two a b c d = true) (k : a * d = c * b) : cmp a b c d = 0 := by simp [cmp, h, k]
theorem mul_bd {a b : Nat} {A B : Nat} (h1 : a ≤ A) (h2 : b ≤ B) : a * b ≤ A * B := Nat.mul_le_mul h1 h2
end Go.Proofs.Ytigeffgehckbpab.Fr
