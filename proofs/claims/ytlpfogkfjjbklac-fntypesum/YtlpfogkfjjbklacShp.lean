/-
  Chapter 3: numbers put together, and taken apart, number by number; no program.
-/
import Derived.Test.YtlpfogkfjjbklacShs
namespace Go.Proofs.Ytlpfogkfjjbklac.Lift
set_option linter.unusedVariables false
set_option linter.unusedSimpArgs false
/-- Together, and taken apart. -/
def add (xs ys : List Int) : List Int := comb (fun x y => (x + y) % 31) xs ys
def sub (xs ys : List Int) : List Int := comb (fun x y => (x - y) % 31) xs ys
theorem comb_size {g : Int → Int → Int} {xs ys : List Int} (h : Fp.fit xs ys = true) : (comb g xs ys).length = xs.length := by simp [comb, h]
theorem comb_at {g : Int → Int → Int} {xs ys : List Int} (h : Fp.fit xs ys = true) {t : Nat} (ht : t < xs.length) : (comb g xs ys).getD t 0 = g (xs.getD t 0) (ys.getD t 0) := by
  simp [comb, h, List.getD_eq_getElem?_getD, List.getElem?_range ht]
theorem list_ext {xs ys : List Int} (hl : xs.length = ys.length) (h : ∀ t, t < xs.length → xs.getD t 0 = ys.getD t 0) : xs = ys := by
  refine List.ext_getElem hl fun t h1 h2 => ?_
  have := h t h1
  simpa [List.getD_eq_getElem?_getD, List.getElem?_eq_getElem h1, List.getElem?_eq_getElem h2] using this
theorem sok_of {xs : List Int} (hl : xs.length ≤ 20) (h : ∀ t, t < xs.length → 0 ≤ xs.getD t 0 ∧ xs.getD t 0 < 31) : Fp.sok xs = true := by
  rw [Fp.sok_iff]
  refine ⟨hl, fun z hz => ?_⟩
  obtain ⟨i, hi, rfl⟩ := List.getElem_of_mem hz
  have := h i hi
  rw [List.getD_eq_getElem?_getD, List.getElem?_eq_getElem hi, Option.getD_some] at this
  rw [Fp.ok_iff]
  exact this
theorem sok_at {xs : List Int} (h : Fp.sok xs = true) (t : Nat) : 0 ≤ xs.getD t 0 ∧ xs.getD t 0 < 31 := (Fp.ok_iff _).1 (Fp.sok_get h t)
theorem fit_of {xs ys : List Int} (h1 : Fp.sok xs = true) (h2 : Fp.sok ys = true) (h3 : xs.length = ys.length) : Fp.fit xs ys = true := by simp [Fp.fit, h1, h2, h3]
theorem sok_comb {g : Int → Int → Int} (hg : ∀ x y, 0 ≤ g x y ∧ g x y < 31) {xs ys : List Int} (h : Fp.fit xs ys = true) : Fp.sok (comb g xs ys) = true := by
  have hs := comb_size (g := g) h
  have hl := Fp.sok_len (fit_parts h).1
  refine sok_of (by omega) fun t ht => ?_
  rw [comb_at h (by omega)]
  exact hg _ _
theorem sok_add {xs ys : List Int} (h : Fp.fit xs ys = true) : Fp.sok (add xs ys) = true := sok_comb (fun x y => by omega) h
theorem sok_sub {xs ys : List Int} (h : Fp.fit xs ys = true) : Fp.sok (sub xs ys) = true := sok_comb (fun x y => by omega) h
theorem add_size {xs ys : List Int} (h : Fp.fit xs ys = true) : (add xs ys).length = xs.length := comb_size h
theorem sub_size {xs ys : List Int} (h : Fp.fit xs ys = true) : (sub xs ys).length = xs.length := comb_size h
theorem add_at {xs ys : List Int} (h : Fp.fit xs ys = true) {t : Nat} (ht : t < xs.length) : (add xs ys).getD t 0 = (xs.getD t 0 + ys.getD t 0) % 31 := comb_at h ht
theorem sub_at {xs ys : List Int} (h : Fp.fit xs ys = true) {t : Nat} (ht : t < xs.length) : (sub xs ys).getD t 0 = (xs.getD t 0 - ys.getD t 0) % 31 := comb_at h ht
/-- Taken apart and put together. -/
theorem add_sub {v d : List Int} (h : Fp.fit v d = true) : Fp.fit (sub v d) d = true ∧ add (sub v d) d = v := by
  obtain ⟨h1, h2, h3⟩ := fit_parts h
  have hs := sub_size h
  have hf := fit_of (sok_sub h) h2 (by omega)
  refine ⟨hf, list_ext (by rw [add_size hf, hs]) fun t ht => ?_⟩
  rw [add_size hf] at ht
  have := sok_at h1 t
  rw [add_at hf ht, sub_at h (by omega)]
  omega
/-- What is taken apart of what was taken apart. -/
theorem sub_sub {v a : List Int} (h : Fp.fit v a = true) : Fp.fit v (sub v a) = true ∧ sub v (sub v a) = a := by
  obtain ⟨h1, h2, h3⟩ := fit_parts h
  have hs := sub_size h
  have hf := fit_of h1 (sok_sub h) (by omega)
  refine ⟨hf, list_ext (by rw [sub_size hf, h3]) fun t ht => ?_⟩
  rw [sub_size hf] at ht
  have := sok_at h2 t
  rw [sub_at hf ht, sub_at h (by omega)]
  omega
theorem sub_zero {v : List Int} (h : Fp.sok v = true) : Fp.fit v (List.replicate v.length 0) = true ∧ sub v (List.replicate v.length 0) = v := by
  have hz : ∀ t, (List.replicate v.length (0 : Int)).getD t 0 = 0 := fun t => by
    rw [List.getD_eq_getElem?_getD, List.getElem?_replicate]; split <;> rfl
  have hf : Fp.fit v (List.replicate v.length 0) = true := fit_of h (sok_of (by rw [List.length_replicate]; exact Fp.sok_len h) fun t _ => by rw [hz]; omega) (by simp)
  refine ⟨hf, list_ext (sub_size hf) fun t ht => ?_⟩
  rw [sub_size hf] at ht
  have := sok_at h t
  rw [sub_at hf ht, hz]
  omega
theorem sub_self {v : List Int} (h : Fp.sok v = true) : Fp.fit v v = true ∧ sub v v = List.replicate v.length 0 := by
  have hf : Fp.fit v v = true := fit_of h h rfl
  refine ⟨hf, list_ext (by rw [sub_size hf]; simp) fun t ht => ?_⟩
  rw [sub_size hf] at ht
  rw [sub_at hf ht, Int.sub_self]
  simp [List.getD_eq_getElem?_getD, List.getElem?_replicate, ht]
/-- Shares of a sum are sums of shares. -/
theorem four {a b d e : List Int} (h : Fp.fit a b = true) (hd : Fp.fit a d = true) (he : Fp.fit b e = true) :
    Fp.fit (sub a d) (sub b e) = true ∧ Fp.fit d e = true ∧ Fp.fit (add (sub a d) (sub b e)) (add d e) = true ∧ add (add (sub a d) (sub b e)) (add d e) = add a b := by
  obtain ⟨a1, b1, l1⟩ := fit_parts h
  obtain ⟨_, d1, l2⟩ := fit_parts hd
  obtain ⟨_, e1, l3⟩ := fit_parts he
  have s1 := sub_size hd
  have s2 := sub_size he
  have f1 := fit_of (sok_sub hd) (sok_sub he) (by omega)
  have f2 := fit_of d1 e1 (by omega)
  have s3 := add_size f1
  have s4 := add_size f2
  have f3 := fit_of (sok_add f1) (sok_add f2) (by omega)
  refine ⟨f1, f2, f3, list_ext (by rw [add_size f3, add_size h]; omega) fun t ht => ?_⟩
  rw [add_size f3] at ht
  rw [add_at f3 ht, add_at f1 (by omega), add_at f2 (by omega), add_at h (by omega), sub_at hd (by omega), sub_at he (by omega)]
  omega
/-- Shared anew. -/
theorem anew {a b d : List Int} (h : Fp.fit a b = true) (hd : Fp.fit a d = true) : Fp.fit b d = true ∧ Fp.fit (add a d) (sub b d) = true ∧ add (add a d) (sub b d) = add a b := by
  obtain ⟨a1, b1, l1⟩ := fit_parts h
  obtain ⟨_, d1, l2⟩ := fit_parts hd
  have f1 := fit_of b1 d1 (by omega)
  have s1 := add_size hd
  have s2 := sub_size f1
  have f2 := fit_of (sok_add hd) (sok_sub f1) (by omega)
  refine ⟨f1, f2, list_ext (by rw [add_size f2, add_size h]; omega) fun t ht => ?_⟩
  rw [add_size f2] at ht
  rw [add_at f2 ht, add_at hd (by omega), sub_at f1 (by omega), add_at h (by omega)]
  omega
/-- With one number another, another share. -/
theorem other_share {v a : List Int} (h : Fp.fit v a = true) {k : Nat} (hk : k < v.length) :
    Fp.fit v ((sub v a).set k (Fp.sum ((sub v a).getD k 0) 1)) = true ∧ sub v ((sub v a).set k (Fp.sum ((sub v a).getD k 0) 1)) ≠ a := by
  obtain ⟨v1, a1, l1⟩ := fit_parts h
  have s1 := sub_size h
  have o1 := sok_sub h
  have hsum : Fp.sum ((sub v a).getD k 0) 1 = ((sub v a).getD k 0 + 1) % 31 := Fp.sum_eq (Fp.sok_get o1 k) (by decide)
  have hg : ∀ t, t < v.length → ((sub v a).set k (Fp.sum ((sub v a).getD k 0) 1)).getD t 0 = if t = k then ((sub v a).getD k 0 + 1) % 31 else (sub v a).getD t 0 := fun t ht => by
    rw [hsum, List.getD_eq_getElem?_getD, List.getElem?_set]
    by_cases e : k = t
    · subst e; simp [s1, ht]
    · rw [if_neg e, if_neg (fun x => e x.symm), ← List.getD_eq_getElem?_getD]
  have hf : Fp.fit v ((sub v a).set k (Fp.sum ((sub v a).getD k 0) 1)) = true := by
    refine fit_of v1 (sok_of (by rw [List.length_set, s1]; exact Fp.sok_len v1) fun t ht => ?_) (by rw [List.length_set]; omega)
    rw [List.length_set, s1] at ht
    rw [hg t ht]
    have := sok_at o1 t
    split <;> omega
  refine ⟨hf, fun e => ?_⟩
  have e1 : (sub v ((sub v a).set k (Fp.sum ((sub v a).getD k 0) 1))).getD k 0 = a.getD k 0 := by rw [e]
  rw [sub_at hf hk, hg k hk, if_pos rfl, sub_at h hk] at e1
  have := sok_at v1 k
  have := sok_at a1 k
  omega
end Go.Proofs.Ytlpfogkfjjbklac.Lift
