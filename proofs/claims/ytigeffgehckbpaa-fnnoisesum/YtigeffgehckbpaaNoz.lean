/-
  Noise, on integers, as the document's chapter 33 has it: no program is named here.
-/
import Derived.Test.YtigeffgehckbpaaRa
import Derived.KernelRfl
namespace Go.Proofs.Ytigeffgehckbpaa.Fp
set_option linter.unusedVariables false
/-- The noise of an element. -/
def nzE (n : Int) : Int := if n < 11 then 0 else if n < 18 then 1 else if n < 25 then -1 else if n < 28 then 2 else -2
def nz (n : Int) : Int := if ok n then nzE n else 0
theorem nz_ok {n : Int} (h : ok n = true) : nz n = nzE n := by simp [nz, h]
theorem nz_no {n : Int} (h : ok n = false) : nz n = 0 := by simp [nz, h]
theorem nzE_bd (n : Int) : -2 ≤ nzE n ∧ nzE n ≤ 2 := by unfold nzE; repeat' split <;> omega
theorem nz_bd (n : Int) : -2 ≤ nz n ∧ nz n ≤ 2 := by
  unfold nz
  split
  · exact nzE_bd n
  · omega
/-- All of it, one by one. -/
def nzL : List Int := [0, 0, 0, 0, 0, 0, 0, 0, 0, 0, 0, 1, 1, 1, 1, 1, 1, 1, -1, -1, -1, -1, -1, -1, -1, 2, 2, 2, -2, -2, -2]
theorem nzL_len : nzL.length = 31 := rfl
theorem nzL_get : ∀ k : Nat, k < 31 → nzL.getD k 0 = nz (k : Int) := by decide
theorem nzE_get {k : Nat} (h : k < 31) : nzL.getD k 0 = nzE (k : Int) := by
  rw [nzL_get k h]; exact nz_ok ((ok_iff _).2 ⟨by omega, by omega⟩)
/-- How many of the first k elements have so much noise. -/
def nzm (v : Int) (k : Nat) : Nat := many (fun s => nz (s : Int) == v) k
def nmany (v : Int) : Nat := nzm v 31
theorem nzm_le (v : Int) (k : Nat) : nzm v k ≤ k := many_le _ k
theorem nzm_yes {v : Int} {k : Nat} (h : nz (k : Int) = v) : nzm v (k + 1) = nzm v k + 1 := many_yes (by simpa using h)
theorem nzm_no {v : Int} {k : Nat} (h : nz (k : Int) ≠ v) : nzm v (k + 1) = nzm v k := many_no (by simpa using h)
theorem nzm_out {v : Int} (h : v < -2 ∨ 2 < v) (k : Nat) : nzm v k = 0 := by
  induction k with
  | zero => rfl
  | succ k ih =>
    rw [nzm_no (fun e => by have := nz_bd (k : Int); omega), ih]
theorem nmany_out {v : Int} (h : v < -2 ∨ 2 < v) : nmany v = 0 := nzm_out h 31
theorem nmany_0 : nmany 0 = 11 := by decide
theorem nmany_1 : nmany 1 = 7 := by decide
theorem nmany_m1 : nmany (-1) = 7 := by decide
theorem nmany_2 : nmany 2 = 3 := by decide
theorem nmany_m2 : nmany (-2) = 3 := by decide
theorem nmany_3 : nmany 3 = 0 := nmany_out (by omega)
theorem nmany_neg {v : Int} (h0 : -3 ≤ v) (h1 : v ≤ 3) : nmany (-v) = nmany v := by
  have : v = -3 ∨ v = -2 ∨ v = -1 ∨ v = 0 ∨ v = 1 ∨ v = 2 ∨ v = 3 := by omega
  rcases this with rfl | rfl | rfl | rfl | rfl | rfl | rfl <;> decide
theorem nmany_none {v : Int} (h0 : -3 ≤ v) (h1 : v ≤ 3) : ((nmany v : Int) == 0) = (decide (2 < v) || decide (v < -2)) := by
  have : v = -3 ∨ v = -2 ∨ v = -1 ∨ v = 0 ∨ v = 1 ∨ v = 2 ∨ v = 3 := by omega
  rcases this with rfl | rfl | rfl | rfl | rfl | rfl | rfl <;> decide
/-- The noise of what two seeds draw together. -/
def nb (a b at_ : Int) : Int := nz (rboth a b at_)
theorem nb_bd (a b i : Int) : -2 ≤ nb a b i ∧ nb a b i ≤ 2 := nz_bd _
theorem rboth_ok (a b i : Int) : ok (rboth a b i) = true := by
  unfold rboth
  split
  · rw [ok_iff]; omega
  · rfl
theorem nb_E (a b i : Int) : nb a b i = nzE (rboth a b i) := nz_ok (rboth_ok a b i)
theorem nb_ns {a b i : Int} (h : sok a = false) : nb a b i = 0 := by rw [nb, rboth_ns h]; rfl
theorem nb_nt {a b i : Int} (h : sok b = false) : nb a b i = 0 := by rw [nb, rboth_nt h]; rfl
theorem nb_na {a b i : Int} (h : iok i = false) : nb a b i = 0 := by rw [nb, rboth_na h]; rfl
theorem nb_comm (a b i : Int) : nb a b i = nb b a i := by
  unfold nb
  congr 1
  unfold rboth
  rw [Bool.and_comm (sok a) (sok b), Int.add_comm]
/-- Whatever one seed is, each noise comes so often of the first 31 other seeds. -/
def evenN (y : Nat) (a : Nat) (v : Int) : Bool := many (fun s => nzE (((rN s a : Int) + y) % 31) == v) 31 == nmany v
def evenNB : Bool := (List.range 21).all fun a => (List.range 31).all fun y => evenN y a (-2) && evenN y a (-1) && evenN y a 0 && evenN y a 1 && evenN y a 2
theorem evenNB_is : evenNB = true := by kernel_rfl
theorem nb_even {y i v : Int} (hi : iok i = true) (hy : ok y = true) (h0 : -2 ≤ v) (h1 : v ≤ 2) : many (fun s => nzE ((rnd (s : Int) i + y) % 31) == v) 31 = nmany v := by
  have h := evenNB_is
  unfold evenNB at h
  rw [List.all_eq_true] at h
  rw [iok_iff] at hi
  rw [ok_iff] at hy
  have h2 := h i.toNat (by simp; omega)
  rw [List.all_eq_true] at h2
  have h3 := h2 y.toNat (by simp; omega)
  simp only [Bool.and_eq_true] at h3
  have e : ∀ s : Nat, rnd (s : Int) i = (rN s i.toNat : Int) := fun s => by rw [← rN_eq]; congr 1; omega
  have ey : ((y.toNat : Nat) : Int) = y := by omega
  have h4 : evenN y.toNat i.toNat v = true := by
    have : v = -2 ∨ v = -1 ∨ v = 0 ∨ v = 1 ∨ v = 2 := by omega
    rcases this with rfl | rfl | rfl | rfl | rfl
    · exact h3.1.1.1.1
    · exact h3.1.1.1.2
    · exact h3.1.1.2
    · exact h3.1.2
    · exact h3.2
  unfold evenN at h4
  rw [beq_iff_eq] at h4
  rw [← h4]
  exact many_congr fun s _ => by rw [e, ey]
/-- What NoiseAdd takes, and gives. -/
def inC (n : Int) : Bool := decide (0 ≤ n) && decide (n ≤ 9999)
theorem inC_iff (n : Int) : inC n = true ↔ 0 ≤ n ∧ n ≤ 9999 := by simp [inC]
def cok (l : List Int) : Bool := decide (l.length ≤ 20) && l.all inC
def naB (l : List Int) (a b : Int) : Bool := sok a && sok b && cok l
def naddTo (l : List Int) (a b : Int) (k : Nat) : List Int := (List.range k).map fun i => l.getD i 0 + nb a b (i : Int)
def nadd (l : List Int) (a b : Int) : List Int := if naB l a b then naddTo l a b l.length else []
theorem naddTo_len (l : List Int) (a b : Int) (k : Nat) : (naddTo l a b k).length = k := by simp [naddTo]
theorem naddTo_succ (l : List Int) (a b : Int) (k : Nat) : naddTo l a b (k + 1) = naddTo l a b k ++ [l.getD k 0 + nb a b (k : Int)] := by simp [naddTo, List.range_succ]
theorem naddTo_get {l : List Int} {a b : Int} {n k : Nat} (h : k < n) : (naddTo l a b n).getD k 0 = l.getD k 0 + nb a b (k : Int) := by
  simp [naddTo, List.getD_eq_getElem?_getD, List.getElem?_map, List.getElem?_range h]
theorem nadd_yes {l : List Int} {a b : Int} (h : naB l a b = true) : nadd l a b = naddTo l a b l.length := by simp [nadd, h]
theorem nadd_no {l : List Int} {a b : Int} (h : naB l a b = false) : nadd l a b = [] := by simp [nadd, h]
theorem naB_ns {l : List Int} {a b : Int} (h : sok a = false) : naB l a b = false := by simp [naB, h]
theorem naB_nt {l : List Int} {a b : Int} (h : sok b = false) : naB l a b = false := by simp [naB, h]
theorem naB_nc {l : List Int} {a b : Int} (h : cok l = false) : naB l a b = false := by simp [naB, h]
theorem naB_yes {l : List Int} {a b : Int} (h1 : sok a = true) (h2 : sok b = true) (h3 : cok l = true) : naB l a b = true := by simp [naB, h1, h2, h3]
theorem naB_iff {l : List Int} {a b : Int} : naB l a b = true ↔ sok a = true ∧ sok b = true ∧ cok l = true := by simp [naB, and_assoc]
theorem cok_len {l : List Int} (h : cok l = true) : l.length ≤ 20 := by simp [cok] at h; exact h.1
theorem cok_long {l : List Int} (h : 20 < l.length) : cok l = false := by simp [cok]; omega
theorem getD_mem {l : List Int} {k : Nat} (h : k < l.length) : l.getD k 0 ∈ l := by
  rw [List.getD_eq_getElem?_getD, List.getElem?_eq_getElem h]; exact List.getElem_mem h
theorem cok_get {l : List Int} (h : cok l = true) {k : Nat} (hk : k < l.length) : inC (l.getD k 0) = true := by
  simp only [cok, Bool.and_eq_true, List.all_eq_true] at h
  exact h.2 _ (getD_mem hk)
theorem cok_bad {l : List Int} {k : Nat} (hk : k < l.length) (h : inC (l.getD k 0) = false) : cok l = false := by
  cases hc : cok l
  · rfl
  · rw [cok_get hc hk] at h; cases h
theorem cok_all {l : List Int} (hl : l.length ≤ 20) (h : ∀ k, k < l.length → inC (l.getD k 0) = true) : cok l = true := by
  simp only [cok, Bool.and_eq_true, List.all_eq_true, decide_eq_true_eq]
  refine ⟨hl, fun x hx => ?_⟩
  obtain ⟨k, hk, e⟩ := List.mem_iff_getElem.1 hx
  have := h k hk
  rw [List.getD_eq_getElem?_getD, List.getElem?_eq_getElem hk] at this
  simpa [e] using this
theorem nadd_len (l : List Int) (a b : Int) : (nadd l a b).length ≤ 20 := by
  cases h : naB l a b
  · rw [nadd_no h]; simp
  · rw [nadd_yes h, naddTo_len]; exact cok_len (naB_iff.1 h).2.2
theorem nadd_comm (l : List Int) (a b : Int) : nadd l a b = nadd l b a ∧ naB l a b = naB l b a := by
  have e : naB l a b = naB l b a := by unfold naB; rw [Bool.and_comm (sok a) (sok b)]
  refine ⟨?_, e⟩
  unfold nadd
  rw [e]
  have : naddTo l a b l.length = naddTo l b a l.length := by
    unfold naddTo
    exact List.map_congr_left fun i _ => by rw [nb_comm]
  rw [this]
end Go.Proofs.Ytigeffgehckbpaa.Fp
