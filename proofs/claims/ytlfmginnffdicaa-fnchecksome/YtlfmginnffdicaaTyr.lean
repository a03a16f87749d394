/-
  Chapter 11, no program: the check is a polynomial of what is drawn; it is 0 of numbers of a value, and of others at few places.
-/
import Derived.Test.YtlfmginnffdicaaTy
import Derived.Test.YtlfmginnffdicaaSl
namespace Go.Proofs.Ytlfmginnffdicaa
set_option linter.unusedVariables false
set_option linter.unusedSimpArgs false
namespace Fp
theorem fa_all : ∀ a : Fin 31, fa (a.val : Int) = 0 ↔ ((a.val : Int) = 0 ∨ (a.val : Int) = 1) := by decide +kernel
theorem fa_zero {a : Int} (h : ok a = true) : fa a = 0 ↔ (a = 0 ∨ a = 1) := by
  obtain ⟨e, rfl⟩ := fin_of h; exact fa_all e
theorem pw_cg (d : Int) (j : Nat) : cg (pw d j) (d ^ j) := by
  induction j with
  | zero => rw [Int.pow_zero]; exact cg.rfl' _
  | succ j ih =>
    rw [pw, Int.pow_succ]
    exact (cg_mod _).trans (ih.mul (cg.rfl' d))
theorem tt_cg (v : List Int) (d : Int) (j : Nat) : cg (tt v d j) (S (fun i => fa (v.getD i 0) * d ^ i) j) := by
  induction j with
  | zero => exact cg.rfl' _
  | succ j ih =>
    rw [tt, S_succ]
    refine (cg_mod _).trans (ih.add ?_)
    rw [Int.mul_comm]
    exact (cg.rfl' _).mul (pw_cg d j)
def coef (k : Int) (v : List Int) : List Int := v.map fa ++ [sur k v]
theorem coef_len (k : Int) (v : List Int) : (coef k v).length = v.length + 1 := by simp [coef]
theorem coef_get {k : Int} {v : List Int} {i : Nat} (h : i < v.length) : (coef k v).getD i 0 = fa (v.getD i 0) := by
  simp [coef, List.getD_eq_getElem?_getD, List.getElem?_append, h]
theorem coef_last (k : Int) (v : List Int) : (coef k v).getD v.length 0 = sur k v := by
  simp [coef, List.getD_eq_getElem?_getD, List.getElem?_append]
theorem tchk_ev {k : Int} {v : List Int} {d : Int} (h : tvec k v = true) (hd : ok d = true) : cg (tchk k v d) (ev (coef k v) d) := by
  rw [tchk_eq h hd, ev_S, coef_len, S_succ, coef_last, S_congr (g := fun i => fa (v.getD i 0) * d ^ i) (fun i hi => by rw [coef_get hi])]
  refine (cg_mod _).trans ((tt_cg v d _).add ?_)
  rw [Int.mul_comm]
  exact (cg.rfl' _).mul (pw_cg d _)
theorem tchk_ok (k : Int) (v : List Int) (d : Int) : ok (tchk k v d) = true := by unfold tchk; split; exact emod_ok _; rfl
theorem sm_all {v : List Int} {n : Nat} (h : ∀ i, i < n → v.getD i 0 = 0 ∨ v.getD i 0 = 1) : 0 ≤ sm v n ∧ sm v n ≤ (n : Int) := by
  induction n with
  | zero => exact ⟨Int.le_refl 0, Int.le_refl 0⟩
  | succ j ih =>
    have := ih fun i hi => h i (by omega)
    have := h j (by omega)
    rw [sm]; omega
theorem seldom {k : Int} {v : List Int} (hv : tvec k v = true) (ht : tok k v = false) {xs : List Int} (hd : xs.Pairwise fun a b => ¬ cg (b - a) 0) (h : ∀ x ∈ xs, ok x = true ∧ tchk k v x = 0) : xs.length ≤ v.length := by
  rcases Nat.lt_or_ge v.length xs.length with hl | hl
  · exfalso
    obtain ⟨hk, hs, hn⟩ := tvec_iff.1 hv
    have hz := roots (coef k v) xs (by rw [coef_len]; omega) hd (fun x hx => by
      have := h x hx
      exact (tchk_ev hv this.1).symm.trans (by rw [this.2]; exact cg.rfl' 0))
    have hb : ∀ i, i < v.length → v.getD i 0 = 0 ∨ v.getD i 0 = 1 := fun i hi => by
      have h1 := hz ((coef k v).getD i 0) (by rw [List.getD_eq_getElem?_getD, List.getElem?_eq_getElem (by rw [coef_len]; omega)]; simp)
      rw [coef_get hi] at h1
      exact (fa_zero (sok_get hs i)).1 (h1.eq (fa_ok _) rfl)
    have hs' := hz ((coef k v).getD v.length 0) (by rw [List.getD_eq_getElem?_getD, List.getElem?_eq_getElem (by rw [coef_len]; omega)]; simp)
    rw [coef_last] at hs'
    have h0 := hs'.eq (sur_ok k v) rfl
    have : tok k v = true := bits_tok hk hn ⟨fun i hi => hb i (by omega), fun e => by
      subst e
      rw [sur, if_pos rfl, ← sr_sm] at h0
      have := sm_all hb
      have l4 := tlen_le 2
      rw [← hn]
      omega⟩
    rw [this] at ht; cases ht
  · exact hl
theorem none_all {v : List Int} (d : Int) {n : Nat} (h : ∀ i, i < n → v.getD i 0 = 0 ∨ v.getD i 0 = 1) : tt v d n = 0 := by
  induction n with
  | zero => rfl
  | succ j ih =>
    rw [tt, ih fun i hi => h i (by omega)]
    have : fa (v.getD j 0) = 0 := by rcases h j (by omega) with e | e <;> rw [e] <;> rfl
    rw [this]; simp
theorem tchk_none {k : Int} {v : List Int} {d : Int} (h : tok k v = true) (hd : ok d = true) : tchk k v d = 0 := by
  obtain ⟨hk, hn, hb⟩ := tok_iff.1 h
  rw [tchk_eq (tok_vec h) hd, none_all d (n := v.length) (fun i hi => hb.1 i (by omega))]
  have : sur k v = 0 := by
    unfold sur
    split
    · rename_i e
      have := hb.2 e
      rw [← hn] at this
      rw [← sr_sm, this]; rfl
    · rfl
  rw [this]; simp
/-- How many of the first k numbers f takes to 0. -/
def cz (f : Int → Int) : Nat → Nat
  | 0 => 0
  | k + 1 => cz f k + if f k = 0 then 1 else 0
theorem cz_le (f : Int → Int) (k : Nat) : cz f k ≤ k := by
  induction k with
  | zero => exact Nat.le_refl _
  | succ k ih => rw [cz]; split <;> omega
theorem cz_filter (f : Int → Int) (k : Nat) : cz f k = ((pts k).filter fun x => decide (f x = 0)).length := by
  induction k with
  | zero => rfl
  | succ k ih =>
    have : pts (k + 1) = pts k ++ [(k : Int)] := by simp [pts, List.range_succ]
    rw [cz, ih, this, List.filter_append, List.length_append]
    by_cases h : f k = 0 <;> simp [h]
theorem pts_ok {x : Int} (h : x ∈ pts 31) : ok x = true := by
  simp only [pts, List.mem_map, List.mem_range] at h
  obtain ⟨i, hi, rfl⟩ := h
  exact (ok_iff _).2 ⟨by omega, by omega⟩
theorem few_zero {k : Int} {v : List Int} (hv : tvec k v = true) (ht : tok k v = false) : cz (tchk k v) 31 ≤ tlen k := by
  rw [← (tvec_iff.1 hv).2.2, cz_filter]
  refine seldom hv ht ((pts_pair 31 (by omega)).filter _) fun x hx => ?_
  rw [List.mem_filter] at hx
  exact ⟨pts_ok hx.1, by simpa using hx.2⟩
theorem found {k : Int} {v : List Int} (hv : tvec k v = true) (ht : tok k v = false) (h : ∀ j : Nat, j < 31 → tchk k v (j : Int) = 0) : False := by
  have := seldom hv ht (pts_pair 31 (by omega)) fun x hx => ⟨pts_ok hx, by
    simp only [pts, List.mem_map, List.mem_range] at hx
    obtain ⟨i, hi, rfl⟩ := hx
    exact h i hi⟩
  rw [(tvec_iff.1 hv).2.2] at this
  have h31 : (pts 31).length = 31 := rfl
  have := tlen_le k
  omega
theorem set_vec {k v : Int} {p : Nat} {y : Int} (hc : tcan k v = true) (hp : p < tlen k) (h2 : 2 ≤ y) (h30 : y ≤ 30) : tvec k ((tmk k v).set p y) = true ∧ tok k ((tmk k v).set p y) = false := by
  obtain ⟨hk, h0, h1⟩ := tcan_iff.1 hc
  rw [tmk_yes hc]
  have hl : ((tenc k v.toNat).set p y).length = tlen k := by rw [List.length_set, tenc_len]
  refine ⟨tvec_iff.2 ⟨hk, ?_, hl⟩, tok_f ?_⟩
  · have hs := bits_sok (tenc_len k v.toNat) (bits_enc hk (x := v.toNat) (by omega))
    rw [sok_iff] at hs ⊢
    refine ⟨by rw [List.length_set]; exact hs.1, fun z hz => ?_⟩
    rcases List.mem_or_eq_of_mem_set hz with h | h
    · exact hs.2 z h
    · rw [h, ok_iff]; omega
  · rintro ⟨-, -, hb, -⟩
    have := hb p hp
    rw [List.getD_eq_getElem?_getD, List.getElem?_set] at this
    have hpl : p < (tenc k v.toNat).length := by rw [tenc_len]; exact hp
    simp [hpl] at this
    omega
/-- What the law FnTypeOk reckons. -/
def cb (zs : List Int) (u : Bool) : Nat → Bool
  | 0 => u
  | j + 1 => cb zs u j && (zs.getD j 0 == 0 || zs.getD j 0 == 1)
def ss (zs : List Int) : Nat → Int
  | 0 => 0
  | j + 1 => ss zs j + if 0 < zs.getD j 0 ∧ zs.getD j 0 < 9 then zs.getD j 0 else 0
theorem ss_bd (zs : List Int) (j : Nat) : 0 ≤ ss zs j ∧ ss zs j ≤ 8 * (j : Int) := by
  induction j with
  | zero => exact ⟨Int.le_refl 0, by show (0 : Int) ≤ 8 * 0; omega⟩
  | succ j ih => rw [ss]; split <;> omega
theorem cb_all {zs : List Int} {u : Bool} {n : Nat} (h : cb zs u n = true) : u = true ∧ ∀ i, i < n → zs.getD i 0 = 0 ∨ zs.getD i 0 = 1 := by
  induction n with
  | zero => exact ⟨h, fun i hi => by omega⟩
  | succ j ih =>
    rw [cb, Bool.and_eq_true] at h
    obtain ⟨h1, h2⟩ := ih h.1
    refine ⟨h1, fun i hi => ?_⟩
    by_cases e : i = j
    · subst e; simpa using h.2
    · exact h2 i (by omega)
theorem cb_of {zs : List Int} {n : Nat} (h : ∀ i, i < n → zs.getD i 0 = 0 ∨ zs.getD i 0 = 1) : cb zs true n = true := by
  induction n with
  | zero => rfl
  | succ j ih =>
    rw [cb, ih fun i hi => h i (by omega)]
    rcases h j (by omega) with e | e <;> rw [e] <;> rfl
theorem ss_sm {zs : List Int} {n : Nat} (h : ∀ i, i < n → zs.getD i 0 = 0 ∨ zs.getD i 0 = 1) : ss zs n = sm zs n := by
  induction n with
  | zero => rfl
  | succ j ih =>
    rw [ss, sm, ih fun i hi => h i (by omega)]
    rcases h j (by omega) with e | e <;> rw [e] <;> simp
theorem ok_law_f {k : Int} {zs : List Int} {u : Bool} {n : Nat} (hn : zs.length = n) (hu : u = (tk k && decide (n = tlen k))) (h : cb zs u n = false) : tok k zs = false := tok_f (by
  rintro ⟨h1, h2, h3, -⟩
  have e : u = true := by rw [hu, h1]; simp; omega
  subst e
  have hnk : n = tlen k := by omega
  rw [cb_of (by rw [hnk]; exact h3)] at h
  cases h)
theorem ok_law_t {k : Int} {zs : List Int} {u : Bool} {n : Nat} (hn : zs.length = n) (hu : u = (tk k && decide (n = tlen k))) (h : cb zs u n = true) (hs : k ≠ 2 ∨ ss zs n = 1) : tok k zs = true := by
  obtain ⟨h1, h2⟩ := cb_all h
  rw [h1] at hu
  have hu' := hu.symm
  simp only [Bool.and_eq_true, decide_eq_true_eq] at hu'
  refine bits_tok hu'.1 (by omega) ⟨fun i hi => h2 i (by omega), fun e => ?_⟩
  rcases hs with hs | hs
  · exact absurd e hs
  · rw [← hu'.2, ← ss_sm h2]; exact hs
theorem ok_law_n {zs : List Int} {u : Bool} {n : Nat} (hn : zs.length = n) (hu : u = (tk 2 && decide (n = tlen 2))) (h : cb zs u n = true) (hs : ss zs n ≠ 1) : tok 2 zs = false := tok_f (by
  rintro ⟨-, h2, -, h4⟩
  have := h4 rfl
  rw [← h2, hn, ← ss_sm (cb_all h).2] at this
  exact hs this)
theorem tmk_back {k v : Int} (h : tcan k v = true) : tval k (tmk k v) = v ∧ tok k (tmk k v) = true := by
  obtain ⟨hk, h0, h1⟩ := tcan_iff.1 h
  rw [tmk_yes h, tval_enc hk (x := v.toNat) (by omega), tok_enc hk (x := v.toNat) (by omega)]
  exact ⟨by omega, rfl⟩
theorem tval_back {k : Int} {zs : List Int} (h : tok k zs = true) : tcan k (tval k zs) = true ∧ tmk k (tval k zs) = zs := by
  obtain ⟨x, hk, hx, rfl, hv⟩ := tok_form h
  rw [hv]
  have hc : tcan k (x : Int) = true := tcan_yes hk (by omega) (by omega)
  refine ⟨hc, ?_⟩
  rw [tmk_yes hc]; rfl
theorem tmk_ne {k v u : Int} (h : tcan k v = true) (h' : tcan k u = true) (hn : v ≠ u) : eqB (tmk k v) (tmk k u) = false := eqB_false fun e => hn (by
  have := (tmk_back h).1
  rw [e, (tmk_back h').1] at this
  exact this.symm)
theorem tmk_len_yes {k v : Int} (h : tcan k v = true) : (tmk k v).length = tlen k := by rw [tmk_yes h, tenc_len]
end Fp
end Go.Proofs.Ytlfmginnffdicaa
