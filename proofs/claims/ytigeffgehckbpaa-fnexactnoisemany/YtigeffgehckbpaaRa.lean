/-
  What a seed draws at an index, on integers, as the document's chapter 4 has it: no program is named here.
-/
import Derived.Test.YtigeffgehckbpaaFp
import Derived.KernelRfl
namespace Go.Proofs.Ytigeffgehckbpaa.Fp
set_option linter.unusedVariables false
def sok (s : Int) : Bool := decide (0 ≤ s) && decide (s ≤ 999)
def iok (i : Int) : Bool := decide (0 ≤ i) && decide (i ≤ 20)
theorem sok_iff (s : Int) : sok s = true ↔ 0 ≤ s ∧ s ≤ 999 := by simp [sok]
theorem iok_iff (s : Int) : iok s = true ↔ 0 ≤ s ∧ s ≤ 20 := by simp [iok]
theorem sok_not (s : Int) : sok s = false ↔ ¬ (0 ≤ s ∧ s ≤ 999) := by rw [← sok_iff]; simp
theorem iok_not (s : Int) : iok s = false ↔ ¬ (0 ≤ s ∧ s ≤ 20) := by rw [← iok_iff]; simp
/-- The formula. -/
def rnd (s a : Int) : Int := (s + 7 * (s / 31) + 11 * a * a + 26 * a * (s % 31) + 3 * a) % 31
def rat (s a : Int) : Int := if sok s && iok a then rnd s a else 0
def rboth (s t a : Int) : Int := if sok s && sok t && iok a then (rnd s a + rnd t a) % 31 else 0
theorem rnd_lo (s a : Int) : 0 ≤ rnd s a := by unfold rnd; omega
theorem rnd_hi (s a : Int) : rnd s a < 31 := by unfold rnd; omega
theorem rnd_ok (s a : Int) : ok (rnd s a) = true := (ok_iff _).2 ⟨rnd_lo s a, rnd_hi s a⟩
theorem rat_eq {s a : Int} (hs : sok s = true) (ha : iok a = true) : rat s a = rnd s a := by simp [rat, hs, ha]
theorem rat_ns {s a : Int} (hs : sok s = false) : rat s a = 0 := by simp [rat, hs]
theorem rat_na {s a : Int} (ha : iok a = false) : rat s a = 0 := by simp [rat, ha]
theorem rat_ok (s a : Int) : ok (rat s a) = true := by
  unfold rat
  split
  · exact rnd_ok _ _
  · rfl
theorem rboth_eq {s t a : Int} (hs : sok s = true) (ht : sok t = true) (ha : iok a = true) : rboth s t a = (rnd s a + rnd t a) % 31 := by simp [rboth, hs, ht, ha]
theorem rboth_ns {s t a : Int} (hs : sok s = false) : rboth s t a = 0 := by simp [rboth, hs]
theorem rboth_nt {s t a : Int} (hs : sok t = false) : rboth s t a = 0 := by simp [rboth, hs]
theorem rboth_na {s t a : Int} (ha : iok a = false) : rboth s t a = 0 := by simp [rboth, ha]
theorem rnd_bd {s a : Int} (hs : sok s = true) (ha : iok a = true) : (0 ≤ 11 * a * a ∧ 11 * a * a ≤ 4400) ∧ (0 ≤ 26 * a * (s % 31) ∧ 26 * a * (s % 31) ≤ 15600) := by
  rw [iok_iff] at ha
  have hp : 0 ≤ s % 31 ∧ s % 31 ≤ 30 := by omega
  have h1 : 11 * a * a ≤ 220 * a := Int.mul_le_mul_of_nonneg_right (by omega) ha.1
  have h2 : 26 * a * (s % 31) ≤ 520 * (s % 31) := Int.mul_le_mul_of_nonneg_right (by omega) hp.1
  exact ⟨⟨Int.mul_nonneg (by omega) ha.1, by omega⟩, ⟨Int.mul_nonneg (by omega) hp.1, by omega⟩⟩
theorem rnd_bd' {s a : Int} (hs : sok s = true) (ha : iok a = true) : (0 ≤ a * a ∧ a * a ≤ 400) ∧ (0 ≤ a * (s % 31) ∧ a * (s % 31) ≤ 600) := by
  rw [iok_iff] at ha
  have hp : 0 ≤ s % 31 ∧ s % 31 ≤ 30 := by omega
  have h1 : a * a ≤ 20 * a := Int.mul_le_mul_of_nonneg_right (by omega) ha.1
  have h2 : a * (s % 31) ≤ 20 * (s % 31) := Int.mul_le_mul_of_nonneg_right (by omega) hp.1
  exact ⟨⟨Int.mul_nonneg (by omega) ha.1, by omega⟩, ⟨Int.mul_nonneg (by omega) hp.1, by omega⟩⟩
theorem rnd_eq' (s a : Int) : (s + s / 31 * 7 + a * a * 11 + a * (s % 31) * 26 + a * 3) % 31 = rnd s a := by
  unfold rnd
  rw [Int.mul_assoc 11 a a, Int.mul_assoc 26 a (s % 31), Int.mul_comm (a * a) 11, Int.mul_comm (a * (s % 31)) 26]
  congr 1; omega
/-- How many of the first k of which f holds. -/
def many (f : Nat → Bool) : Nat → Nat
  | 0 => 0
  | k + 1 => many f k + if f k then 1 else 0
theorem many_le (f : Nat → Bool) (k : Nat) : many f k ≤ k := by
  induction k with
  | zero => exact Nat.le_refl _
  | succ k ih => rw [many]; split <;> omega
theorem many_yes {f : Nat → Bool} {k : Nat} (h : f k = true) : many f (k + 1) = many f k + 1 := by rw [many, h]; rfl
theorem many_no {f : Nat → Bool} {k : Nat} (h : f k = false) : many f (k + 1) = many f k := by rw [many, h]; rfl
theorem many_congr {f g : Nat → Bool} {k : Nat} (h : ∀ i, i < k → f i = g i) : many f k = many g k := by
  induction k with
  | zero => rfl
  | succ k ih => rw [many, many, ih (fun i hi => h i (by omega)), h k (by omega)]
def rN (s a : Nat) : Nat := (s + 7 * (s / 31) + 11 * a * a + 26 * a * (s % 31) + 3 * a) % 31
theorem rN_eq (s a : Nat) : rnd (s : Int) (a : Int) = (rN s a : Int) := by unfold rnd rN; simp
def evenB : Bool := (List.range 21).all fun a => (List.range 31).all fun n => many (fun s => rN s a == n) 31 == 1
theorem evenB_is : evenB = true := by kernel_rfl
/-- Each element is drawn by just one of the first 31 seeds, at an index. -/
theorem even {a n : Int} (ha : iok a = true) (hn : ok n = true) : many (fun s => rnd (s : Int) a == n) 31 = 1 := by
  have h := evenB_is
  unfold evenB at h
  rw [List.all_eq_true] at h
  rw [iok_iff] at ha
  rw [ok_iff] at hn
  have h1 := h a.toNat (by simp; omega)
  rw [List.all_eq_true] at h1
  have h2 := h1 n.toNat (by simp; omega)
  rw [beq_iff_eq] at h2
  rw [← h2]
  refine many_congr fun i _ => ?_
  have e1 : rnd (i : Int) a = (rN i a.toNat : Int) := by rw [← rN_eq]; congr 1; omega
  rw [e1, Bool.eq_iff_iff]
  simp; omega
/-- The same beside another that is added. -/
theorem evenl {a y v : Int} (ha : iok a = true) (hy : ok y = true) (hv : ok v = true) : many (fun s => (rnd (s : Int) a + y) % 31 == v) 31 = 1 := by
  rw [← even (n := (v - y) % 31) ha ((ok_iff _).2 (by omega))]
  refine many_congr fun i _ => ?_
  rw [ok_iff] at hy hv
  have := rnd_lo (i : Int) a
  have := rnd_hi (i : Int) a
  rw [Bool.eq_iff_iff]
  simp; omega
theorem evenr {a y v : Int} (ha : iok a = true) (hy : ok y = true) (hv : ok v = true) : many (fun s => (y + rnd (s : Int) a) % 31 == v) 31 = 1 := by
  rw [← evenl ha hy hv]
  exact many_congr fun i _ => by rw [Int.add_comm]
theorem rnd_zero {s : Int} (h0 : 0 ≤ s) (h1 : s < 31) : rnd s 0 = s := by unfold rnd; omega
/-- What a seed draws at the indexes from 0 on. -/
def rvec (s : Int) (n : Nat) : List Int := (List.range n).map fun i : Nat => rnd s (i : Int)
theorem rvec_len (s : Int) (n : Nat) : (rvec s n).length = n := by simp [rvec]
theorem rvec_succ (s : Int) (n : Nat) : rvec s (n + 1) = rvec s n ++ [rnd s (n : Int)] := by simp [rvec, List.range_succ]
theorem rvec_take {s : Int} {n m : Nat} (h : m ≤ n) : (rvec s n).take m = rvec s m := by
  unfold rvec; rw [← List.map_take, List.take_range]; congr 2; omega
theorem rvec_get {s : Int} {n k : Nat} (h : k < n) : (rvec s n).getD k 0 = rnd s (k : Int) := by
  simp [rvec, List.getD_eq_getElem?_getD, List.getElem?_map, List.getElem?_range h]
def rvB (s m : Int) : Bool := sok s && iok m
def rvOf (s m : Int) : List Int := if rvB s m then rvec s m.toNat else []
theorem rvB_eq {s m : Int} (hs : sok s = true) (hm : iok m = true) : rvB s m = true := by simp [rvB, hs, hm]
theorem rvB_ns {s m : Int} (hs : sok s = false) : rvB s m = false := by simp [rvB, hs]
theorem rvB_nm {s m : Int} (hm : iok m = false) : rvB s m = false := by simp [rvB, hm]
theorem rvOf_eq {s m : Int} (h : rvB s m = true) : rvOf s m = rvec s m.toNat := by simp [rvOf, h]
theorem rvOf_no {s m : Int} (h : rvB s m = false) : rvOf s m = [] := by simp [rvOf, h]
theorem rvOf_len (s m : Int) : (rvOf s m).length ≤ 20 := by
  cases h : rvB s m
  · rw [rvOf_no h]; simp
  · rw [rvOf_eq h, rvec_len]
    simp only [rvB, Bool.and_eq_true] at h
    have := (iok_iff m).1 h.2
    omega
end Go.Proofs.Ytigeffgehckbpaa.Fp
