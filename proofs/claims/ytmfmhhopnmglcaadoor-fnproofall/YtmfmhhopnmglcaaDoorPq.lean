/-
  Plain mathematics of polynomials modulo 31: Lagrange's factors, interpolation (Lagrange's and Newton's). No program is named here.
-/
import Derived.Test.YtmfmhhopnmglcaaDoorPn
namespace Go.Proofs.YtmfmhhopnmglcaaDoor.Fp
set_option linter.unusedSimpArgs false
theorem mul_cg {a b : Int} (ha : ok a = true) (hb : ok b = true) : cg (mul a b) (a * b) := by rw [mul_eq ha hb]; exact cg_mod _
theorem dif_cg {a b : Int} (ha : ok a = true) (hb : ok b = true) : cg (dif a b) (a - b) := by rw [dif_eq ha hb]; exact cg_mod _
theorem nat_ok {k : Nat} (h : k < 31) : ok (k : Int) = true := (ok_iff _).2 ⟨by omega, by omega⟩
theorem dif_nz {i k : Nat} (hi : i < 31) (hk : k < 31) (h : k ≠ i) : dif (i : Int) (k : Int) ≠ 0 := by
  rw [dif_eq (nat_ok hi) (nat_ok hk)]; omega
theorem inv_ok' {a : Int} (ha : ok a = true) (h0 : a ≠ 0) : ok (inv a) = true := (inv_ok ha h0).1

/-! ### Lagrange's factors -/
def lagTo (x : Int) (i : Nat) : Nat → Int
  | 0 => 1
  | k + 1 => if k = i then lagTo x i k else mul (lagTo x i k) (mul (dif x k) (inv (dif i k)))
def prTo (x : Int) (i : Nat) : Nat → Int
  | 0 => 1
  | k + 1 => if k = i then prTo x i k else prTo x i k * ((x - k) % 31) % 31
def lagL (many : Nat) (x : Int) : List Int := (List.range many).map fun i => lagTo x i many
theorem lagTo_ok (x : Int) (i k : Nat) : ok (lagTo x i k) = true := by
  induction k with
  | zero => rfl
  | succ k ih => rw [lagTo]; split; exact ih; exact mul_ok _ _
theorem prTo_ok (x : Int) (i k : Nat) : ok (prTo x i k) = true := by
  induction k with
  | zero => rfl
  | succ k ih => rw [prTo]; split; exact ih; exact emod_ok _
theorem prTo_nz {i k : Nat} (hi : i < 31) (hk : k ≤ 31) : prTo (i : Int) i k ≠ 0 := by
  induction k with
  | zero => simp [prTo]
  | succ k ih =>
    rw [prTo]
    split
    · exact ih (by omega)
    · rename_i hne
      have h1 := ih (by omega)
      intro h
      rw [← mul_eq (prTo_ok _ _ _) (emod_ok _), mul_none (prTo_ok _ _ _) (emod_ok _)] at h
      rcases h with h | h
      · exact h1 h
      · omega
theorem lag_pr {x : Int} {i k : Nat} (hx : ok x = true) (hi : i < 31) (hk : k ≤ 31) : lagTo x i k = prTo x i k * inv (prTo i i k) % 31 := by
  have hp : ∀ k, k ≤ 31 → cg (lagTo x i k * prTo i i k) (prTo x i k) := by
    intro k hk
    induction k with
    | zero => exact rfl
    | succ k ih =>
      have ih := ih (by omega)
      rw [lagTo, prTo, prTo]
      split
      · exact ih
      · rename_i hne
        have hko : ok (k : Int) = true := nat_ok (by omega)
        have hio : ok (i : Int) = true := nat_ok hi
        have hd := dif_nz hi (show k < 31 by omega) hne
        have h1 : cg (mul (lagTo x i k) (mul (dif x k) (inv (dif i k)))) (lagTo x i k * ((x - k) * inv (dif i k))) :=
          (mul_cg (lagTo_ok _ _ _) (mul_ok _ _)).trans ((cg.rfl' _).mul ((mul_cg (dif_ok _ _) (inv_ok' (dif_ok _ _) hd)).trans ((dif_cg hx hko).mul (cg.rfl' _))))
        have h2 : cg (prTo i i k * (((i : Int) - k) % 31) % 31) (prTo i i k * dif i k) := by
          rw [dif_eq hio hko]; exact cg_mod _
        have h3 : cg (prTo x i k * ((x - k) % 31) % 31) (prTo x i k * (x - k)) := (cg_mod _).trans ((cg.rfl' _).mul (cg_mod _))
        refine (h1.mul h2).trans (cg.trans (b := (lagTo x i k * prTo i i k) * (x - k) * (dif i k * inv (dif i k))) (cg.of_eq (by grind)) ?_)
        refine ((ih.mul (cg.rfl' _)).mul (inv_cg (dif_ok _ _) hd)).trans ?_
        rw [Int.mul_one]; exact h3.symm
  have hn := prTo_nz hi hk
  have ho := prTo_ok (i : Int) i k
  have h1 := hp k hk
  have h2 : cg (prTo x i k * inv (prTo i i k)) (lagTo x i k) := by
    refine (h1.symm.mul (cg.rfl' (inv (prTo i i k)))).trans ?_
    rw [Int.mul_assoc]
    have := (cg.rfl' (lagTo x i k)).mul (inv_cg ho hn)
    rwa [Int.mul_one] at this
  exact (h2.mod (lagTo_ok _ _ _)).symm
theorem lag_own {m i n : Nat} (hm : m < n) (hi : i < n) (hn : n ≤ 31) : lagTo (m : Int) i n = if i = m then 1 else 0 := by
  by_cases e : i = m
  · subst e
    rw [if_pos rfl]
    have : ∀ k, k ≤ 31 → lagTo (i : Int) i k = 1 := by
      intro k hk
      induction k with
      | zero => rfl
      | succ k ih =>
        rw [lagTo]
        split
        · exact ih (by omega)
        · rename_i hne
          have hd := dif_nz (show i < 31 by omega) (show k < 31 by omega) hne
          rw [ih (by omega), (inv_ok (dif_ok _ _) hd).2.2]; rfl
    exact this n hn
  · rw [if_neg e]
    have : ∀ k, m < k → k ≤ 31 → lagTo (m : Int) i k = 0 := by
      intro k hk hk31
      induction k with
      | zero => omega
      | succ k ih =>
        rw [lagTo]
        by_cases ek : k = m
        · subst ek
          have hd := dif_nz (show i < 31 by omega) (show k < 31 by omega) (Ne.symm e)
          rw [if_neg (Ne.symm e), dif_self (nat_ok (by omega)), zero_mul (inv_ok' (dif_ok _ _) hd)]
          rw [mul_comm, zero_mul (lagTo_ok _ _ _)]
        · split
          · exact ih (by omega) (by omega)
          · rw [ih (by omega) (by omega), zero_mul (mul_ok _ _)]
    exact this n hm hn

/-! ### Lagrange's interpolation -/
def qTo (i : Nat) : Nat → List Int
  | 0 => [1]
  | k + 1 => if k = i then qTo i k else mulL (qTo i k) [mul (dif 0 k) (inv (dif i k)), inv (dif i k)]
theorem qTo_pos (i k : Nat) : 0 < (qTo i k).length := by
  induction k with
  | zero => simp [qTo]
  | succ k ih =>
    rw [qTo]; split
    · exact ih
    · rw [mulL_len ih (by simp)]; simp only [List.length_cons, List.length_nil]; omega
theorem qTo_len (i k : Nat) : (qTo i k).length = if i < k then k else k + 1 := by
  induction k with
  | zero => simp [qTo]
  | succ k ih =>
    rw [qTo]
    by_cases e : k = i
    · subst e; rw [if_pos rfl, ih]; simp
    · rw [if_neg e, mulL_len (qTo_pos i k) (by simp), ih]
      simp only [List.length_cons, List.length_nil]
      split <;> split <;> omega
theorem qTo_ok (i k : Nat) : ∀ z ∈ qTo i k, ok z = true := by
  induction k with
  | zero => simp [qTo]; rfl
  | succ k ih =>
    rw [qTo]; split
    · exact ih
    · exact mulL_ok _ _
theorem qTo_ev {i k : Nat} {x : Int} (hx : ok x = true) (hi : i < 31) (hk : k ≤ 31) : cg (ev (qTo i k) x) (lagTo x i k) := by
  induction k with
  | zero => exact cg.of_eq (by simp [qTo, ev, lagTo])
  | succ k ih =>
    rw [qTo, lagTo]
    split
    · exact ih (by omega)
    · rename_i hne
      have hko : ok (k : Int) = true := nat_ok (by omega)
      have hd := dif_nz hi (show k < 31 by omega) hne
      have ho := inv_ok' (dif_ok (i : Int) k) hd
      refine (mulL_ev _ _ x).trans (((ih (by omega)).mul ?_).trans (mul_cg (lagTo_ok _ _ _) (mul_ok _ _)).symm)
      refine cg.trans ?_ (mul_cg (dif_ok _ _) ho).symm
      rw [ev_cons, ev_cons]
      simp only [ev, List.foldr_nil, Int.mul_zero, Int.add_zero]
      refine (((mul_cg (dif_ok _ _) ho).trans ((dif_cg ok_zero hko).mul (cg.rfl' _))).add (cg.rfl' _)).trans ?_
      refine (cg.of_eq ?_).trans ((dif_cg hx hko).symm.mul (cg.rfl' _))
      grind
def thTo (vals zs : List Int) (i k : Nat) : Prop := ∀ t, t < zs.length → zs.getD t 0 = (S (fun j => vals.getD j 0 * (qTo j vals.length).getD t 0) i + if t < k then vals.getD i 0 * (qTo i vals.length).getD t 0 else 0) % 31
def thr (vals : List Int) : List Int := (List.range vals.length).map fun t => S (fun j => vals.getD j 0 * (qTo j vals.length).getD t 0) vals.length % 31
theorem thTo_start (vals : List Int) (n : Nat) : thTo vals (List.replicate n 0) 0 0 := by
  intro t ht
  simp at ht
  simp [S, List.getD_eq_getElem?_getD, ht]
theorem thTo_step {vals zs : List Int} {i k : Nat} (h : thTo vals zs i k) (hk : k < zs.length) :
    thTo vals (zs.set k ((zs.getD k 0 + vals.getD i 0 * (qTo i vals.length).getD k 0) % 31)) i (k + 1) := by
  intro t ht
  rw [List.length_set] at ht
  by_cases e : k = t
  · subst e
    rw [show (zs.set k ((zs.getD k 0 + vals.getD i 0 * (qTo i vals.length).getD k 0) % 31)).getD k 0 = (zs.getD k 0 + vals.getD i 0 * (qTo i vals.length).getD k 0) % 31 by simp [List.getD_eq_getElem?_getD, ht]]
    rw [h _ hk, if_neg (by omega), if_pos (by omega)]
    omega
  · rw [show (zs.set k ((zs.getD k 0 + vals.getD i 0 * (qTo i vals.length).getD k 0) % 31)).getD t 0 = zs.getD t 0 by simp [List.getD_eq_getElem?_getD, e]]
    rw [h t ht]
    by_cases h1 : t < k
    · rw [if_pos h1, if_pos (by omega)]
    · rw [if_neg h1, if_neg (by omega)]
theorem thTo_row {vals zs : List Int} {i : Nat} (h : thTo vals zs i zs.length) : thTo vals zs (i + 1) 0 := by
  intro t ht
  rw [h t ht, if_pos ht, if_neg (by omega), S_succ]; omega
theorem thTo_end {vals zs : List Int} (h : thTo vals zs vals.length 0) (hl : zs.length = vals.length) : zs = thr vals := by
  apply ext_getD' (by simp [thr, hl])
  intro t ht
  rw [h t ht, thr, getD_map _ (by omega)]
  simp
theorem thr_len (vals : List Int) : (thr vals).length = vals.length := by simp [thr]
theorem thr_ok (vals : List Int) : ∀ z ∈ thr vals, ok z = true := by
  intro z hz
  simp [thr] at hz; obtain ⟨i, _, rfl⟩ := hz; exact emod_ok _
theorem thr_pok {vals : List Int} (h : vals.length ≤ 9) : pok (thr vals) = true := by rw [pok_iff, thr_len]; exact ⟨h, thr_ok _⟩
/-- Values, each as often as Lagrange's factors say, give the polynomial's value. -/
theorem thr_ev {vals : List Int} (hn : vals.length ≤ 31) {x : Int} (hx : ok x = true) : cg (ev (thr vals) x) (S (fun j => vals.getD j 0 * lagTo x j vals.length) vals.length) := by
  rw [thr, ev_map]
  refine (S_cg (g := fun t => S (fun j => vals.getD j 0 * (qTo j vals.length).getD t 0) vals.length * x ^ t) fun t _ => (cg_mod _).mul (cg.rfl' _)).trans ?_
  have e1 : S (fun t => S (fun j => vals.getD j 0 * (qTo j vals.length).getD t 0) vals.length * x ^ t) vals.length = S (fun t => S (fun j => vals.getD j 0 * ((qTo j vals.length).getD t 0 * x ^ t)) vals.length) vals.length :=
    S_congr fun t _ => by rw [Int.mul_comm, ← S_mul]; exact S_congr fun i _ => by grind
  rw [e1, S_swap]
  refine S_cg fun j hj => ?_
  have e2 : S (fun t => vals.getD j 0 * ((qTo j vals.length).getD t 0 * x ^ t)) vals.length = vals.getD j 0 * ev (qTo j vals.length) x := by
    rw [S_mul, ev_S, qTo_len, if_pos hj]
  rw [e2]
  exact (cg.rfl' _).mul (qTo_ev hx (by omega) hn)
theorem thr_at {vals : List Int} (hn : vals.length ≤ 31) {m : Nat} (hm : m < vals.length) : cg (ev (thr vals) m) (vals.getD m 0) := by
  refine (thr_ev hn (nat_ok (by omega))).trans (cg.of_eq ?_)
  rw [S_one hm (fun i hi hne => by show vals.getD i 0 * _ = 0; rw [lag_own hm hi hn, if_neg hne]; simp)]
  show vals.getD m 0 * _ = _
  rw [lag_own hm hm hn, if_pos rfl, Int.mul_one]
theorem thr_uniq {p vals : List Int} (hl : p.length = vals.length) (hn : vals.length ≤ 31) (hp : ∀ z ∈ p, ok z = true) (h : ∀ m : Nat, m < vals.length → cg (ev p m) (vals.getD m 0)) : p = thr vals :=
  uniq (by rw [hl, thr_len]) (by omega) hp (thr_ok _) fun i hi => (h i (by omega)).trans (thr_at hn (by omega)).symm

/-! ### Newton's interpolation -/
/-- Divided differences of f at s, s + 1, .., s + k. -/
def dd (f : Nat → Int) : Nat → Nat → Int
  | 0, s => f s
  | k + 1, s => (dd f k (s + 1) - dd f k s) % 31 * inv ((k : Int) + 1) % 31
/-- x (x-1) .. (x-i+1) -/
def ff (x : Int) : Nat → Int
  | 0 => 1
  | i + 1 => ff x i * (x - i)
theorem ff_up (x : Int) (i : Nat) : ff (x + 1) (i + 1) = (x + 1) * ff x i := by
  induction i with
  | zero => simp [ff]
  | succ i ih => rw [ff, ih, ff]; push_cast; grind
theorem ff_step (x : Int) (i : Nat) : ff (x + 1) (i + 1) = ff x (i + 1) + ((i : Int) + 1) * ff x i := by
  rw [ff_up, ff]; grind
theorem ff_zero {t i : Nat} (h : t < i) : ff (t : Int) i = 0 := by
  induction i with
  | zero => omega
  | succ i ih =>
    rw [ff]
    by_cases e : t = i
    · subst e; simp
    · rw [ih (by omega), Int.zero_mul]
theorem dd_step (f : Nat → Int) {k : Nat} (hk : k < 30) (s : Nat) : cg (dd f k (s + 1)) (dd f k s + ((k : Int) + 1) * dd f (k + 1) s) := by
  have hko : ok ((k : Int) + 1) = true := (ok_iff _).2 ⟨by omega, by omega⟩
  have h1 : cg (dd f (k + 1) s) ((dd f k (s + 1) - dd f k s) * inv ((k : Int) + 1)) := by
    rw [dd]; exact (cg_mod _).trans ((cg_mod _).mul (cg.rfl' _))
  have h2 : cg (((k : Int) + 1) * dd f (k + 1) s) (dd f k (s + 1) - dd f k s) := by
    refine ((cg.rfl' _).mul h1).trans ((cg.of_eq (b := (((k : Int) + 1) * inv ((k : Int) + 1)) * (dd f k (s + 1) - dd f k s)) (by grind)).trans ?_)
    have := (inv_cg hko (by omega)).mul (cg.rfl' (dd f k (s + 1) - dd f k s))
    rwa [Int.one_mul] at this
  have := (cg.rfl' (dd f k s)).add h2.symm
  refine (cg.of_eq ?_).trans this
  omega
theorem newton (f : Nat → Int) (t : Nat) (ht : t < 30) : ∀ s, cg (f (s + t)) (S (fun i => dd f i s * ff t i) (t + 1)) := by
  induction t with
  | zero => intro s; exact cg.of_eq (by simp [S, dd, ff])
  | succ t ih =>
    intro s
    have h1 := ih (by omega) (s + 1)
    rw [show s + (t + 1) = s + 1 + t by omega]
    refine h1.trans ?_
    refine (S_cg (g := fun i => dd f i s * ff t i + ((i : Int) + 1) * dd f (i + 1) s * ff t i) fun i hi => ((dd_step f (by omega) s).mul (cg.rfl' _)).trans (cg.of_eq (by grind))).trans (cg.of_eq ?_)
    rw [S_add, S_front (fun i => dd f i s * ff ((t + 1 : Nat) : Int) i) (t + 1)]
    have e1 : S (fun i => dd f (i + 1) s * ff ((t + 1 : Nat) : Int) (i + 1)) (t + 1) = S (fun i => dd f (i + 1) s * ff t (i + 1)) (t + 1) + S (fun i => ((i : Int) + 1) * dd f (i + 1) s * ff t i) (t + 1) := by
      rw [← S_add]
      refine S_congr fun i _ => ?_
      rw [show ((t + 1 : Nat) : Int) = (t : Int) + 1 by omega, ff_step]; grind
    rw [e1]
    have e2 : S (fun i => dd f i s * ff t i) (t + 1 + 1) = dd f 0 s * ff t 0 + S (fun i => dd f (i + 1) s * ff t (i + 1)) (t + 1) := S_front _ _
    have e3 : S (fun i => dd f i s * ff t i) (t + 1 + 1) = S (fun i => dd f i s * ff t i) (t + 1) := by
      rw [S_succ]; simp [ff_zero (show t < t + 1 by omega)]
    have e4 : dd f 0 s * ff ((t + 1 : Nat) : Int) 0 = dd f 0 s * ff t 0 := rfl
    rw [e4]
    omega
/-- The coefficients behind m points, the last first. -/
def ex (nw : Nat → Int) (n : Nat) : Nat → Nat → Int
  | 0, _ => 0
  | m + 1, i => if i = 0 then (nw (n - 1 - m) - ((n - 1 - m : Nat) : Int) * ex nw n m 0 % 31) % 31 else (ex nw n m (i - 1) - ((n - 1 - m : Nat) : Int) * ex nw n m i % 31) % 31
theorem ex_ok (nw : Nat → Int) (n m i : Nat) : ok (ex nw n m i) = true := by
  cases m with
  | zero => rfl
  | succ m => rw [ex]; split <;> exact emod_ok _
theorem ex_zero (nw : Nat → Int) (n : Nat) {m i : Nat} (h : m ≤ i) : ex nw n m i = 0 := by
  induction m generalizing i with
  | zero => rfl
  | succ m ih => rw [ex, if_neg (by omega), ih (by omega), ih (by omega)]; simp
/-- Newton's polynomial from point k on, at x. -/
def nv (nw : Nat → Int) (n : Nat) (x : Int) : Nat → Int
  | 0 => 0
  | m + 1 => nw (n - 1 - m) + (x - ((n - 1 - m : Nat) : Int)) * nv nw n x m
theorem ex_ev (nw : Nat → Int) (n : Nat) (x : Int) {m : Nat} (hm : m ≤ n) : cg (S (fun i => ex nw n m i * x ^ i) n) (nv nw n x m) := by
  induction m with
  | zero => exact cg.of_eq (S_zero fun i _ => by show 0 * _ = _; simp)
  | succ m ih =>
    have ih := ih (by omega)
    obtain ⟨n', rfl⟩ : ∃ n', n = n' + 1 := ⟨n - 1, by omega⟩
    rw [S_front]
    have h0 : cg (ex nw (n' + 1) (m + 1) 0 * x ^ 0) (nw (n' + 1 - 1 - m) - ((n' + 1 - 1 - m : Nat) : Int) * ex nw (n' + 1) m 0) := by
      rw [Int.pow_zero, Int.mul_one, ex, if_pos rfl]
      exact (cg_mod _).trans ((cg.rfl' _).sub (cg_mod _))
    have h1 : cg (S (fun i => ex nw (n' + 1) (m + 1) (i + 1) * x ^ (i + 1)) n') (S (fun i => x * (ex nw (n' + 1) m i * x ^ i) + (- ((n' + 1 - 1 - m : Nat) : Int)) * (ex nw (n' + 1) m (i + 1) * x ^ (i + 1))) n') := by
      refine S_cg fun i _ => ?_
      rw [ex, if_neg (by omega), Nat.add_sub_cancel]
      refine (((cg_mod _).trans ((cg.rfl' _).sub (cg_mod _))).mul (cg.rfl' _)).trans (cg.of_eq ?_)
      rw [Int.pow_succ]; grind
    rw [S_add, S_mul, S_mul] at h1
    refine (h0.add h1).trans ?_
    have e1 := S_front (fun i => ex nw (n' + 1) m i * x ^ i) n'
    have e2 := S_succ (fun i => ex nw (n' + 1) m i * x ^ i) n'
    rw [ex_zero nw (n' + 1) (show m ≤ n' by omega)] at e2
    rw [Int.pow_zero, Int.mul_one] at e1
    rw [nv]
    refine cg.trans (cg.of_eq (b := nw (n' + 1 - 1 - m) + (x - ((n' + 1 - 1 - m : Nat) : Int)) * S (fun i => ex nw (n' + 1) m i * x ^ i) (n' + 1)) ?_) ((cg.rfl' _).add ((cg.rfl' _).mul ih))
    grind
theorem nv_S (nw : Nat → Int) (n : Nat) (x : Int) {m : Nat} (hm : m ≤ n) : nv nw n x n = S (fun i => nw i * ff x i) (n - m) + ff x (n - m) * nv nw n x m := by
  induction h : n - m generalizing m with
  | zero =>
    have : m = n := by omega
    subst this
    simp [S, ff]
  | succ k ih =>
    have := ih (m := m + 1) (by omega) (by omega)
    rw [this, nv, show n - 1 - m = k by omega, S_succ, ff]
    grind
/-- Newton's polynomial goes through the values. -/
theorem newton_at (f : Nat → Int) {n t : Nat} (hn : n ≤ 30) (ht : t < n) : cg (nv (fun i => dd f i 0) n t n) (f t) := by
  have h := nv_S (fun i => dd f i 0) n t (m := 0) (by omega)
  rw [nv, Int.mul_zero, Int.add_zero, Nat.sub_zero] at h
  rw [h, S_more (n := t + 1) (by omega) (fun i hi => by show dd f i 0 * _ = 0; rw [ff_zero (by omega), Int.mul_zero])]
  have := newton f t (by omega) 0
  rw [Nat.zero_add] at this
  exact this.symm
def newt (vals : List Int) : List Int := (List.range vals.length).map (ex (fun i => dd (fun j => vals.getD j 0) i 0) vals.length vals.length)
theorem newt_thr {vals : List Int} (hn : vals.length ≤ 30) : newt vals = thr vals := by
  refine thr_uniq (by simp [newt]) (by omega) ?_ fun m hm => ?_
  · intro z hz
    simp [newt] at hz; obtain ⟨i, _, rfl⟩ := hz; exact ex_ok _ _ _ _
  · rw [newt, ev_map]
    exact (ex_ev _ _ _ (Nat.le_refl _)).trans (newton_at (fun j => vals.getD j 0) hn hm)
end Go.Proofs.YtmfmhhopnmglcaaDoor.Fp
