/-
  Plain mathematics of polynomials modulo 31: products, Lagrange's factors, interpolation (Lagrange's and Newton's). No program is named here.
-/
import Derived.Test.YtmfmhhopnmglcaaDoorPm
namespace Go.Proofs.YtmfmhhopnmglcaaDoor.Fp
set_option linter.unusedSimpArgs false
theorem getD_ok {p : List Int} (h : ∀ z ∈ p, ok z = true) (i : Nat) : ok (p.getD i 0) = true := by
  by_cases hi : i < p.length
  · exact h _ (by rw [List.getD_eq_getElem?_getD, List.getElem?_eq_getElem hi]; exact List.getElem_mem hi)
  · rw [List.getD_eq_getElem?_getD, List.getElem?_eq_none (by omega)]; rfl
theorem getD_out {p : List Int} {i : Nat} (h : p.length ≤ i) : p.getD i 0 = 0 := by
  rw [List.getD_eq_getElem?_getD, List.getElem?_eq_none h]; rfl
theorem getD_map (f : Nat → Int) {n i : Nat} (h : i < n) : ((List.range n).map f).getD i 0 = f i := by
  simp [List.getD_eq_getElem?_getD, h]
theorem ext_getD' {xs ys : List Int} (hl : xs.length = ys.length) (h : ∀ i, i < xs.length → xs.getD i 0 = ys.getD i 0) : xs = ys := by
  apply List.ext_getElem hl
  intro i h1 h2
  have := h i h1
  simpa [List.getD_eq_getElem?_getD, List.getElem?_eq_getElem h1, List.getElem?_eq_getElem h2] using this

/-! ### Products -/
/-- What row i gives to place t. -/
def cv (a b : List Int) (t i : Nat) : Int := if i ≤ t then a.getD i 0 * b.getD (t - i) 0 else 0
/-- Place t behind i whole rows and k of the next one. -/
def cvTo (a b : List Int) (i k t : Nat) : Int := S (cv a b t) i + if i ≤ t ∧ t - i < k then a.getD i 0 * b.getD (t - i) 0 else 0
def mulTo (a b zs : List Int) (i k : Nat) : Prop := ∀ t, t < zs.length → zs.getD t 0 = cvTo a b i k t % 31
def mulL (a b : List Int) : List Int := if a = [] ∨ b = [] then [] else (List.range (a.length + b.length - 1)).map fun t => S (cv a b t) a.length % 31
theorem mulTo_start (a b : List Int) (n : Nat) : mulTo a b (List.replicate n 0) 0 0 := by
  intro t ht
  simp at ht
  simp [cvTo, S, List.getD_eq_getElem?_getD, ht]
theorem mulTo_step {a b zs : List Int} {i k : Nat} (h : mulTo a b zs i k) (hz : i + k < zs.length) :
    mulTo a b (zs.set (i + k) ((zs.getD (i + k) 0 + a.getD i 0 * b.getD k 0) % 31)) i (k + 1) := by
  intro t ht
  rw [List.length_set] at ht
  by_cases e : i + k = t
  · subst e
    rw [show (zs.set (i + k) ((zs.getD (i + k) 0 + a.getD i 0 * b.getD k 0) % 31)).getD (i + k) 0 = (zs.getD (i + k) 0 + a.getD i 0 * b.getD k 0) % 31 by simp [List.getD_eq_getElem?_getD, ht]]
    rw [h _ hz]
    unfold cvTo
    rw [if_neg (by omega), if_pos (by omega), show i + k - i = k by omega]
    omega
  · rw [show (zs.set (i + k) ((zs.getD (i + k) 0 + a.getD i 0 * b.getD k 0) % 31)).getD t 0 = zs.getD t 0 by simp [List.getD_eq_getElem?_getD, e]]
    rw [h t ht]
    unfold cvTo
    by_cases h1 : i ≤ t ∧ t - i < k
    · rw [if_pos h1, if_pos (by omega)]
    · rw [if_neg h1, if_neg (by omega)]
theorem cvTo_row (a b : List Int) (i t : Nat) : cvTo a b i b.length t = cvTo a b (i + 1) 0 t := by
  unfold cvTo
  rw [S_succ, if_neg (show ¬ (i + 1 ≤ t ∧ t - (i + 1) < 0) by omega)]
  unfold cv
  by_cases h1 : i ≤ t
  · by_cases h2 : t - i < b.length
    · simp [h1, h2]
    · simp [h1, h2, getD_out (p := b) (i := t - i) (by omega)]
  · simp [h1]
theorem mulTo_row {a b zs : List Int} {i : Nat} (h : mulTo a b zs i b.length) : mulTo a b zs (i + 1) 0 := by
  intro t ht
  rw [h t ht, cvTo_row]
theorem mulL_len {a b : List Int} (ha : 0 < a.length) (hb : 0 < b.length) : (mulL a b).length = a.length + b.length - 1 := by
  unfold mulL
  rw [if_neg (by rintro (h | h) <;> simp [h] at *)]; simp
theorem mulTo_end {a b zs : List Int} (h : mulTo a b zs a.length 0) (ha : 0 < a.length) (hb : 0 < b.length) (hz : a.length + b.length - 1 ≤ zs.length) : zs.take (a.length + b.length - 1) = mulL a b := by
  apply ext_getD'
  · rw [mulL_len ha hb, List.length_take]; omega
  · intro t ht
    rw [List.length_take] at ht
    have e : (zs.take (a.length + b.length - 1)).getD t 0 = zs.getD t 0 := by
      simp [List.getD_eq_getElem?_getD, List.getElem?_take, show t < a.length + b.length - 1 by omega]
    rw [e, h t (by omega)]
    unfold mulL
    rw [if_neg (by rintro (h | h) <;> simp [h] at *), getD_map _ (by omega)]
    simp [cvTo]
theorem mulL_ok (a b : List Int) : ∀ z ∈ mulL a b, ok z = true := by
  intro z hz
  unfold mulL at hz
  split at hz
  · simp at hz
  · simp at hz; obtain ⟨i, _, rfl⟩ := hz; exact emod_ok _
theorem mulL_nil_left (b : List Int) : mulL [] b = [] := by simp [mulL]
theorem mulL_nil_right (a : List Int) : mulL a [] = [] := by simp [mulL]
theorem ev_map (f : Nat → Int) (n : Nat) (x : Int) : ev ((List.range n).map f) x = S (fun i => f i * x ^ i) n := by
  rw [ev_S]; simp only [List.length_map, List.length_range]
  exact S_congr fun i hi => by rw [getD_map f hi]
/-- A product is the product at each place. -/
theorem mulL_ev (a b : List Int) (x : Int) : cg (ev (mulL a b) x) (ev a x * ev b x) := by
  by_cases h : a = [] ∨ b = []
  · rcases h with rfl | rfl
    · rw [mulL_nil_left]; exact cg.of_eq (by simp [ev])
    · rw [mulL_nil_right]; exact cg.of_eq (by simp [ev])
  · have ha : 0 < a.length := by
      rcases Nat.eq_zero_or_pos a.length with h0 | h0
      · exact absurd (.inl (List.eq_nil_of_length_eq_zero h0)) h
      · exact h0
    have hb : 0 < b.length := by
      rcases Nat.eq_zero_or_pos b.length with h0 | h0
      · exact absurd (.inr (List.eq_nil_of_length_eq_zero h0)) h
      · exact h0
    rw [mulL, if_neg h, ev_map]
    refine (S_cg (g := fun t => S (cv a b t) a.length * x ^ t) fun t _ => (cg_mod _).mul (cg.rfl' _)).trans (cg.of_eq ?_)
    have e1 : S (fun t => S (cv a b t) a.length * x ^ t) (a.length + b.length - 1) = S (fun t => S (fun i => cv a b t i * x ^ t) a.length) (a.length + b.length - 1) :=
      S_congr fun t _ => by rw [Int.mul_comm, ← S_mul]; exact S_congr fun i _ => Int.mul_comm _ _
    rw [e1, S_swap, ev_S a, Int.mul_comm, ← S_mul]
    refine S_congr fun i hi => ?_
    rw [S_from (i := i) (by omega) (fun t ht => by simp [cv, show ¬ i ≤ t by omega])]
    have e2 : S (fun k => cv a b (i + k) i * x ^ (i + k)) (a.length + b.length - 1 - i) = S (fun k => (a.getD i 0 * x ^ i) * (b.getD k 0 * x ^ k)) (a.length + b.length - 1 - i) :=
      S_congr fun k _ => by simp only [cv, Nat.le_add_right, if_true, Nat.add_sub_cancel_left, Int.pow_add]; grind
    rw [e2, S_mul, S_more (n := b.length) (by omega) (fun k hk => by show b.getD k 0 * _ = 0; rw [getD_out hk, Int.zero_mul]), ← ev_S]
    exact Int.mul_comm _ _
theorem mulL_len' {a b : List Int} : (mulL a b).length ≤ a.length + b.length - 1 := by
  by_cases h : a = [] ∨ b = []
  · rcases h with rfl | rfl <;> simp [mulL]
  · rw [mulL, if_neg h]; simp
theorem mulL_comm {a b : List Int} (h : a.length + b.length - 1 ≤ 31) : mulL a b = mulL b a := by
  by_cases e : a = [] ∨ b = []
  · rcases e with rfl | rfl <;> simp [mulL]
  · have e1 : (mulL a b).length = (mulL b a).length := by
      rw [mulL, mulL, if_neg e, if_neg (by rintro (h | h) <;> simp [h] at e)]; simp; omega
    refine uniq e1 (Nat.le_trans mulL_len' h) (mulL_ok _ _) (mulL_ok _ _) fun i _ => ?_
    exact (mulL_ev a b i).trans ((cg.of_eq (Int.mul_comm _ _)).trans (mulL_ev b a i).symm)
theorem mulL_assoc {a b c : List Int} (h : (mulL (mulL a b) c).length ≤ 31) : mulL (mulL a b) c = mulL a (mulL b c) := by
  have hl : (mulL (mulL a b) c).length = (mulL a (mulL b c)).length := by
    rcases Nat.eq_zero_or_pos a.length with h0 | ha
    · rw [List.eq_nil_of_length_eq_zero h0]; simp [mulL]
    · rcases Nat.eq_zero_or_pos b.length with h0 | hb
      · rw [List.eq_nil_of_length_eq_zero h0]; simp [mulL]
      · rcases Nat.eq_zero_or_pos c.length with h0 | hc
        · rw [List.eq_nil_of_length_eq_zero h0]; simp [mulL]
        · have h1 := mulL_len ha hb
          have h2 := mulL_len hb hc
          have h3 : 0 < (mulL a b).length := by omega
          have h4 : 0 < (mulL b c).length := by omega
          rw [mulL_len h3 hc, mulL_len ha h4]; omega
  refine uniq hl h (mulL_ok _ _) (mulL_ok _ _) fun i _ => ?_
  refine (mulL_ev _ c i).trans (((mulL_ev a b i).mul (cg.rfl' _)).trans ?_)
  refine (cg.of_eq (Int.mul_assoc _ _ _)).trans ?_
  exact ((cg.rfl' _).mul (mulL_ev b c i).symm).trans (mulL_ev a _ i).symm
theorem mulL_one {a : List Int} (ha : pok a = true) : mulL a [1] = a := by
  rw [pok_iff] at ha
  cases a with
  | nil => simp [mulL]
  | cons c p =>
    refine uniq (by rw [mulL_len (by simp) (by simp)]; simp) ?_ (mulL_ok _ _) ha.2 fun i _ => ?_
    · rw [mulL_len (by simp) (by simp)]; simp at ha ⊢; omega
    · exact (mulL_ev _ _ i).trans (cg.of_eq (by simp [ev]))
theorem mulL_x {a : List Int} (ha : pok a = true) (h0 : a ≠ []) : mulL a [0, 1] = 0 :: a := by
  rw [pok_iff] at ha
  have hl : 0 < a.length := List.length_pos_iff.2 h0
  refine uniq (by rw [mulL_len hl (by simp)]; simp) ?_ (mulL_ok _ _) (by intro z hz; rcases List.mem_cons.1 hz with rfl | hz; exact ok_zero; exact ha.2 z hz) fun i _ => ?_
  · rw [mulL_len hl (by simp)]; simp; omega
  · refine (mulL_ev _ _ i).trans (cg.of_eq ?_)
    rw [ev_cons 0 a, Int.mul_comm]; simp [ev]
/-- The program's product: does it fit, and what is it? -/
def mulB (a b : List Int) : Bool := pok a && pok b && decide ((mulL a b).length ≤ 9)
def pmul (a b : List Int) : List Int := if mulB a b then mulL a b else []
theorem mulB_na {a b : List Int} (h : pok a = false) : mulB a b = false := by simp [mulB, h]
theorem mulB_nb {a b : List Int} (h : pok b = false) : mulB a b = false := by simp [mulB, h]
theorem mulB_long {a b : List Int} (h : 9 < (mulL a b).length) : mulB a b = false := by
  unfold mulB; rw [decide_eq_false (by omega)]; simp
theorem mulB_yes {a b : List Int} (ha : pok a = true) (hb : pok b = true) (h : (mulL a b).length ≤ 9) : mulB a b = true := by simp [mulB, ha, hb, h]
theorem pmul_no {a b : List Int} (h : mulB a b = false) : pmul a b = [] := by simp [pmul, h]
theorem pmul_yes {a b : List Int} (h : mulB a b = true) : pmul a b = mulL a b := by simp [pmul, h]
theorem mulB_iff {a b : List Int} : mulB a b = true ↔ pok a = true ∧ pok b = true ∧ (mulL a b).length ≤ 9 := by simp [mulB, and_assoc]
theorem pmul_pok {a b : List Int} : pok (pmul a b) = true := by
  cases h : mulB a b
  · rw [pmul_no h]; rfl
  · rw [pmul_yes h, pok_iff]; exact ⟨(mulB_iff.1 h).2.2, mulL_ok _ _⟩
end Go.Proofs.YtmfmhhopnmglcaaDoor.Fp
