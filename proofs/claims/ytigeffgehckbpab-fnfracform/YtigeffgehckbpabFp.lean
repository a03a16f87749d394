/-
  Plain arithmetic modulo 31 on integers, as the document's chapter 1 has it: no program is named here.
-/
namespace Go.Proofs.Ytigeffgehckbpab.Fp
def ok (n : Int) : Bool := decide (0 ≤ n) && decide (n < 31)
def red (n : Int) : Int := n % 31
def sum (a b : Int) : Int := if ok a && ok b then (a + b) % 31 else 0
def dif (a b : Int) : Int := if ok a && ok b then (a - b) % 31 else 0
def mul (a b : Int) : Int := if ok a && ok b then (a * b) % 31 else 0
theorem ok_iff (n : Int) : ok n = true ↔ 0 ≤ n ∧ n < 31 := by simp [ok]
theorem ok_not (n : Int) : ok n = false ↔ ¬ (0 ≤ n ∧ n < 31) := by
  rw [← ok_iff]; simp
theorem tmod_lo (n : Int) : -31 < n.tmod 31 := by have := Int.lt_tmod_of_pos n (b := 31) (by omega); omega
theorem tmod_hi (n : Int) : n.tmod 31 < 31 := Int.tmod_lt_of_pos n (by omega)
theorem tmod_neg (n : Int) (h : n.tmod 31 < 0) : n.tmod 31 + 31 = n % 31 := by
  have a := Int.mul_tdiv_add_tmod n 31
  have b := tmod_lo n
  omega
theorem tmod_pos (n : Int) (h : 0 ≤ n.tmod 31) : n.tmod 31 = n % 31 := by
  have a := Int.mul_tdiv_add_tmod n 31
  have b := tmod_hi n
  omega
theorem red_lo (n : Int) : 0 ≤ red n := by unfold red; omega
theorem red_hi (n : Int) : red n < 31 := by unfold red; omega
theorem sum_eq {a b : Int} (ha : ok a = true) (hb : ok b = true) : sum a b = (a + b) % 31 := by simp [sum, ha, hb]
theorem dif_eq {a b : Int} (ha : ok a = true) (hb : ok b = true) : dif a b = (a - b) % 31 := by simp [dif, ha, hb]
theorem mul_eq {a b : Int} (ha : ok a = true) (hb : ok b = true) : mul a b = (a * b) % 31 := by simp [mul, ha, hb]
theorem dif_eq' {a b : Int} (ha : ok a = true) (hb : ok b = true) : dif a b = (a + 31 - b) % 31 := by rw [dif_eq ha hb]; omega
theorem mul_bd {a b : Int} (ha : ok a = true) (hb : ok b = true) : 0 ≤ a * b ∧ a * b ≤ 900 := by
  rw [ok_iff] at ha hb
  refine ⟨Int.mul_nonneg ha.1 hb.1, ?_⟩
  have h1 : a * b ≤ 30 * b := Int.mul_le_mul_of_nonneg_right (by omega) hb.1
  omega
theorem sum_na {a b : Int} (ha : ok a = false) : sum a b = 0 := by simp [sum, ha]
theorem sum_nb {a b : Int} (hb : ok b = false) : sum a b = 0 := by simp [sum, hb]
theorem dif_na {a b : Int} (ha : ok a = false) : dif a b = 0 := by simp [dif, ha]
theorem dif_nb {a b : Int} (hb : ok b = false) : dif a b = 0 := by simp [dif, hb]
theorem mul_na {a b : Int} (ha : ok a = false) : mul a b = 0 := by simp [mul, ha]
theorem mul_nb {a b : Int} (hb : ok b = false) : mul a b = 0 := by simp [mul, hb]
theorem sum_ok (a b : Int) : ok (sum a b) = true := by rw [ok_iff]; unfold sum; split <;> omega
theorem dif_ok (a b : Int) : ok (dif a b) = true := by rw [ok_iff]; unfold dif; split <;> omega
theorem mul_ok (a b : Int) : ok (mul a b) = true := by rw [ok_iff]; unfold mul; split <;> omega
/-- A fact that holds of each of the 31 holds of every element. -/
theorem all {P : Int → Prop} (h : ∀ i : Fin 31, P (i.val : Int)) (a : Int) (ha : ok a = true) : P a := by
  rw [ok_iff] at ha
  have := h ⟨a.toNat, by omega⟩
  simpa [Int.toNat_of_nonneg ha.1] using this
/-- The least number from 1 on whose product with a is 1; 0 if there is none. -/
def invFrom (a : Int) : Nat → Nat → Int
  | 0, _ => 0
  | f + 1, n => if a * (n : Int) % 31 = 1 then n else invFrom a f (n + 1)
def inv (a : Int) : Int := invFrom a 30 1
def has (a : Int) : Bool := ok a && decide (a ≠ 0)
def finv (a : Int) : Int := if has a then inv a else 0
theorem has_na {a : Int} (h : ok a = false) : has a = false := by simp [has, h]
theorem finv_na {a : Int} (h : ok a = false) : finv a = 0 := by simp [finv, has, h]
theorem has_eq {a : Int} (h : ok a = true) (h0 : a ≠ 0) : has a = true := by simp [has, h, h0]
theorem finv_eq {a : Int} (h : ok a = true) (h0 : a ≠ 0) : finv a = inv a := by simp [finv, has, h, h0]
theorem inv_step_yes (a : Int) (k : Nat) (h1 : k < 31) (hi : invFrom a (31 - k) k = inv a) (h : a * (k : Int) % 31 = 1) : inv a = k := by
  obtain ⟨f, hf⟩ : ∃ f, 31 - k = f + 1 := ⟨31 - k - 1, by omega⟩
  rw [← hi, hf]; simp [invFrom, h]
theorem inv_step_no (a : Int) (k : Nat) (h1 : k < 31) (hi : invFrom a (31 - k) k = inv a) (h : ¬ a * (k : Int) % 31 = 1) : invFrom a (31 - (k + 1)) (k + 1) = inv a := by
  obtain ⟨f, hf⟩ : ∃ f, 31 - k = f + 1 := ⟨31 - k - 1, by omega⟩
  rw [hf] at hi
  rw [← hi, show 31 - (k + 1) = f by omega]; simp [invFrom, h]
theorem inv_end (a : Int) (hi : invFrom a (31 - 31) 31 = inv a) : inv a = 0 := by rw [← hi]; rfl
/-- The extended Euclidean algorithm's state behind k rounds: remainder, next remainder, factor, next factor. -/
def eu (e : Int) : Nat → Int × Int × Int × Int
  | 0 => (31, e, 0, 1)
  | k + 1 => let s := eu e k
    if 0 < s.2.1 then (s.2.1, s.1 - s.1 / s.2.1 * s.2.1, s.2.2.2, s.2.2.1 - s.1 / s.2.1 * s.2.2.2) else s
def euOk (s : Int × Int × Int × Int) : Bool :=
  decide (0 ≤ s.1) && decide (s.1 ≤ 31) && decide (0 ≤ s.2.1) && decide (s.2.1 ≤ 31) && decide (-31 ≤ s.2.2.1) && decide (s.2.2.1 ≤ 31) && decide (-31 ≤ s.2.2.2) && decide (s.2.2.2 ≤ 31)
    && decide (0 ≤ s.1 / s.2.1) && decide (s.1 / s.2.1 ≤ 31) && decide (0 ≤ s.1 / s.2.1 * s.2.1) && decide (s.1 / s.2.1 * s.2.1 ≤ 31) && decide (-31 ≤ s.1 / s.2.1 * s.2.2.2) && decide (s.1 / s.2.1 * s.2.2.2 ≤ 31)
theorem eu_all : ∀ e : Fin 31, ∀ k : Fin 10, euOk (eu (e.val : Int) k.val) = true := by decide +kernel
theorem eu_last : ∀ e : Fin 31, (eu (e.val : Int) 9).2.1 = 0 := by decide +kernel
theorem eu_inv : ∀ e : Fin 31, ∀ k : Fin 10, 0 < e.val → (eu (e.val : Int) k.val).2.1 = 0 → (eu (e.val : Int) k.val).2.2.1 % 31 = inv (e.val : Int) := by decide +kernel
theorem inv_all : ∀ e : Fin 31, 0 < e.val → 0 < inv (e.val : Int) ∧ inv (e.val : Int) < 31 ∧ (e.val : Int) * inv (e.val : Int) % 31 = 1 := by decide +kernel
theorem fin_of {a : Int} (ha : ok a = true) : ∃ e : Fin 31, (e.val : Int) = a := by
  rw [ok_iff] at ha; exact ⟨⟨a.toNat, by omega⟩, by simp; omega⟩
theorem eu_bd {a : Int} (ha : ok a = true) {k : Nat} (hk : k < 10) : euOk (eu a k) = true := by
  obtain ⟨e, rfl⟩ := fin_of ha; exact eu_all e ⟨k, hk⟩
theorem eu_end {a : Int} (ha : ok a = true) : (eu a 9).2.1 = 0 := by
  obtain ⟨e, rfl⟩ := fin_of ha; exact eu_last e
theorem eu_is {a : Int} (ha : ok a = true) (h0 : a ≠ 0) {k : Nat} (hk : k < 10) (hz : (eu a k).2.1 = 0) : red (eu a k).2.2.1 = inv a := by
  obtain ⟨e, rfl⟩ := fin_of ha; exact eu_inv e ⟨k, hk⟩ (by omega) hz
theorem inv_ok {a : Int} (ha : ok a = true) (h0 : a ≠ 0) : ok (inv a) = true ∧ inv a ≠ 0 ∧ mul a (inv a) = 1 := by
  have ha' := ha
  obtain ⟨e, rfl⟩ := fin_of ha
  obtain ⟨h1, h2, h3⟩ := inv_all e (by omega)
  have h4 : ok (inv (e.val : Int)) = true := (ok_iff _).2 ⟨by omega, h2⟩
  exact ⟨h4, by omega, by rw [mul_eq ha' h4]; exact h3⟩
theorem emod_ok (n : Int) : ok (n % 31) = true := (ok_iff _).2 ⟨by omega, by omega⟩
theorem ok_zero : ok 0 = true := rfl
theorem ok_one : ok 1 = true := rfl
theorem sum_comm (a b : Int) : sum b a = sum a b := by unfold sum; rw [Int.add_comm b a, Bool.and_comm]
theorem mul_comm (a b : Int) : mul b a = mul a b := by unfold mul; rw [Int.mul_comm b a, Bool.and_comm]
theorem sum_assoc {a b c : Int} (ha : ok a = true) (hb : ok b = true) (hc : ok c = true) : sum (sum a b) c = sum a (sum b c) := by
  rw [sum_eq (sum_ok a b) hc, sum_eq ha (sum_ok b c), sum_eq ha hb, sum_eq hb hc]; omega
theorem mul_assoc {a b c : Int} (ha : ok a = true) (hb : ok b = true) (hc : ok c = true) : mul (mul a b) c = mul a (mul b c) := by
  rw [mul_eq (mul_ok a b) hc, mul_eq ha (mul_ok b c), mul_eq ha hb, mul_eq hb hc]
  rw [Int.mul_emod (a * b % 31) c, Int.mul_emod a (b * c % 31), Int.emod_emod, Int.emod_emod, ← Int.mul_emod, ← Int.mul_emod, Int.mul_assoc]
theorem sum_zero {a : Int} (ha : ok a = true) : sum a 0 = a := by
  rw [sum_eq ha ok_zero]; rw [ok_iff] at ha; omega
theorem mul_one {a : Int} (ha : ok a = true) : mul a 1 = a := by
  rw [mul_eq ha ok_one]; rw [ok_iff] at ha; omega
theorem mul_sum {a b c : Int} (ha : ok a = true) (hb : ok b = true) (hc : ok c = true) : mul a (sum b c) = sum (mul a b) (mul a c) := by
  rw [mul_eq ha (sum_ok b c), sum_eq (mul_ok a b) (mul_ok a c), sum_eq hb hc, mul_eq ha hb, mul_eq ha hc]
  rw [Int.mul_emod a ((b + c) % 31), Int.emod_emod, ← Int.mul_emod, ← Int.add_emod, Int.mul_add]
theorem sum_dif {a b : Int} (ha : ok a = true) (hb : ok b = true) : sum (dif a b) b = a := by
  rw [sum_eq (dif_ok a b) hb, dif_eq ha hb]; rw [ok_iff] at ha; omega
theorem dif_sum {a b : Int} (ha : ok a = true) (hb : ok b = true) : dif (sum a b) b = a := by
  rw [dif_eq (sum_ok a b) hb, sum_eq ha hb]; rw [ok_iff] at ha; omega
theorem dif_self {a : Int} (ha : ok a = true) : dif a a = 0 := by rw [dif_eq ha ha]; omega
theorem mul_none_all : ∀ a b : Fin 31, ((a.val : Int) * (b.val : Int) % 31 = 0) = ((a.val : Int) = 0 ∨ (b.val : Int) = 0) := by
  intro a b; apply propext; revert a b; decide +kernel
theorem mul_none {a b : Int} (ha : ok a = true) (hb : ok b = true) : mul a b = 0 ↔ (a = 0 ∨ b = 0) := by
  rw [mul_eq ha hb]
  obtain ⟨x, rfl⟩ := fin_of ha
  obtain ⟨y, rfl⟩ := fin_of hb
  exact iff_of_eq (mul_none_all x y)
theorem zero_mul {a : Int} (ha : ok a = true) : mul 0 a = 0 := by rw [mul_eq ok_zero ha]; omega
/-- Times a number that is not 0 nothing is lost. -/
theorem mul_cancel {a b c : Int} (ha : ok a = true) (hb : ok b = true) (hc : ok c = true) (h0 : b ≠ 0) (h : mul c b = mul a b) : c = a := by
  obtain ⟨h1, h2, h3⟩ := inv_ok hb h0
  have e : ∀ {x : Int}, ok x = true → mul (mul x b) (inv b) = x := by
    intro x hx
    rw [mul_assoc hx hb h1, h3, mul_one hx]
  rw [← e hc, h, e ha]
theorem inv_uniq {a b : Int} (ha : ok a = true) (hb : ok b = true) (h : mul a b = 1) : b = inv a := by
  have h0 : a ≠ 0 := by
    intro e; subst e; rw [zero_mul hb] at h; omega
  obtain ⟨h1, h2, h3⟩ := inv_ok ha h0
  exact mul_cancel (a := inv a) (b := a) (c := b) h1 ha hb h0 (by rw [mul_comm a b, mul_comm a (inv a), h, h3])
theorem inv_inv {a : Int} (ha : ok a = true) (h0 : a ≠ 0) : inv (inv a) = a := by
  obtain ⟨h1, h2, h3⟩ := inv_ok ha h0
  exact (inv_uniq h1 ha (by rw [mul_comm]; exact h3)).symm
theorem inv_mul {a b : Int} (ha : ok a = true) (hb : ok b = true) (a0 : a ≠ 0) (b0 : b ≠ 0) : inv (mul a b) = mul (inv a) (inv b) := by
  obtain ⟨h1, h2, h3⟩ := inv_ok ha a0
  obtain ⟨g1, g2, g3⟩ := inv_ok hb b0
  refine (inv_uniq (mul_ok a b) (mul_ok _ _) ?_).symm
  rw [mul_assoc ha hb (mul_ok _ _), ← mul_assoc hb h1 g1, mul_comm (inv a) b, mul_assoc h1 hb g1, g3, mul_one h1, h3]
theorem squares_all : ∀ a b : Fin 31, ((a.val : Int) * (a.val : Int) % 31 = (b.val : Int) * (b.val : Int) % 31) ↔ (a = b ∨ ((a.val : Int) + (b.val : Int)) % 31 = 0) := by decide +kernel
theorem squares {a b : Int} (ha : ok a = true) (hb : ok b = true) : mul a a = mul b b ↔ (a = b ∨ sum a b = 0) := by
  rw [mul_eq ha ha, mul_eq hb hb, sum_eq ha hb]
  obtain ⟨x, rfl⟩ := fin_of ha
  obtain ⟨y, rfl⟩ := fin_of hb
  rw [squares_all x y]
  constructor
  · rintro (h | h)
    · exact .inl (by rw [h])
    · exact .inr h
  · rintro (h | h)
    · exact .inl (by apply Fin.ext; omega)
    · exact .inr h
end Go.Proofs.Ytigeffgehckbpab.Fp
