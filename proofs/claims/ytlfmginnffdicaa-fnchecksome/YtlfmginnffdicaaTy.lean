/-
  Chapter 11, no program: the numbers of a value of a kind (tenc), which numbers are some value's (tok), which value (tval), the check (tchk), and what is known of them.
-/
import Derived.Test.YtlfmginnffdicaaPm
import Derived.Test.YtlfmginnffdicaaShok
namespace Go.Proofs.Ytlfmginnffdicaa
set_option linter.unusedVariables false
set_option linter.unusedSimpArgs false
namespace Fp
/-- Is it a kind? -/
def tk (k : Int) : Bool := decide (1 ≤ k) && decide (k ≤ 3)
def tlen (k : Int) : Nat := if k = 1 then 1 else if k = 2 then 4 else if k = 3 then 3 else 0
def tmost (k : Int) : Nat := if k = 1 then 1 else if k = 2 then 3 else 7
theorem tk_cases {k : Int} (h : tk k = true) : k = 1 ∨ k = 2 ∨ k = 3 := by simp [tk] at h; omega
theorem tk_no {k : Int} (h : tk k = false) : k ≠ 1 ∧ k ≠ 2 ∧ k ≠ 3 := by simp [tk] at h; omega
theorem tk_not {k : Int} (h : ¬ (k = 1 ∨ k = 2 ∨ k = 3)) : tk k = false := by
  cases e : tk k
  · rfl
  · exact absurd (tk_cases e) h
theorem tlen_no {k : Int} (h : tk k = false) : tlen k = 0 := by obtain ⟨h1, h2, h3⟩ := tk_no h; simp [tlen, h1, h2, h3]
theorem tlen_pos {k : Int} (h : tk k = true) : 0 < tlen k := by rcases tk_cases h with rfl | rfl | rfl <;> decide
theorem tlen_le (k : Int) : tlen k ≤ 4 := by unfold tlen; split <;> (try split) <;> (try split) <;> omega
theorem tlen_tk {k : Int} (h : 0 < tlen k) : tk k = true := by
  cases e : tk k
  · rw [tlen_no e] at h; omega
  · rfl
theorem tmost_le (k : Int) : tmost k ≤ 7 := by unfold tmost; split <;> (try split) <;> omega
/-- The number at place i of a value x. -/
def dig (k : Int) (x i : Nat) : Int := if k = 2 then (if x = i then 1 else 0) else ((x / 2 ^ i % 2 : Nat) : Int)
theorem dig_two (k : Int) (x i : Nat) : dig k x i = 0 ∨ dig k x i = 1 := by
  unfold dig; split
  · split <;> simp
  · have := Nat.mod_lt (x / 2 ^ i) (show 0 < 2 by omega); omega
def tenc (k : Int) (x : Nat) : List Int := (List.range (tlen k)).map (dig k x)
theorem tenc_len (k : Int) (x : Nat) : (tenc k x).length = tlen k := by simp [tenc]
theorem tenc_get {k : Int} {x i : Nat} (h : i < tlen k) : (tenc k x).getD i 0 = dig k x i := by simp [tenc, List.getD_eq_getElem?_getD, h]
/-- Is v a value of the kind? -/
def tcan (k v : Int) : Bool := tk k && decide (0 ≤ v) && decide (v ≤ (tmost k : Int))
def tmk (k v : Int) : List Int := if tcan k v then tenc k v.toNat else []
theorem tmk_no {k v : Int} (h : tcan k v = false) : tmk k v = [] := by simp [tmk, h]
theorem tmk_yes {k v : Int} (h : tcan k v = true) : tmk k v = tenc k v.toNat := by simp [tmk, h]
theorem tcan_nk {k v : Int} (h : tk k = false) : tcan k v = false := by simp [tcan, h]
theorem tcan_lo {k v : Int} (h : v < 0) : tcan k v = false := by have : ¬ 0 ≤ v := by omega
                                                                 simp [tcan, this]
theorem tcan_hi {k v : Int} (h : (tmost k : Int) < v) : tcan k v = false := by have : ¬ v ≤ (tmost k : Int) := by omega
                                                                               simp [tcan, this]
theorem tcan_yes {k v : Int} (hk : tk k = true) (h0 : 0 ≤ v) (h1 : v ≤ (tmost k : Int)) : tcan k v = true := by simp [tcan, hk, h0, h1]
theorem tcan_iff {k v : Int} : tcan k v = true ↔ tk k = true ∧ 0 ≤ v ∧ v ≤ (tmost k : Int) := by simp [tcan, and_assoc]
theorem tmk_len (k v : Int) : (tmk k v).length ≤ 4 := by
  unfold tmk; split
  · rw [tenc_len]; exact tlen_le k
  · simp
/-- The first value whose numbers these are. -/
def tfind (k : Int) (v : List Int) : Option Nat := if tk k then (List.range (tmost k + 1)).find? (fun x => decide (tenc k x = v)) else none
def tok (k : Int) (v : List Int) : Bool := (tfind k v).isSome
def tval (k : Int) (v : List Int) : Int := ((tfind k v).getD 0 : Nat)
theorem tfind_no {k : Int} {v : List Int} (h : tk k = false) : tfind k v = none := by simp [tfind, h]
theorem tok_nk {k : Int} {v : List Int} (h : tk k = false) : tok k v = false := by simp [tok, tfind_no h]
theorem tval_nk {k : Int} {v : List Int} (h : tk k = false) : tval k v = 0 := by simp [tval, tfind_no h]
theorem tfind_none {k : Int} {v : List Int} (hk : tk k = true) (h : ∀ x, x < tmost k + 1 → tenc k x ≠ v) : tfind k v = none := by
  rw [tfind, if_pos hk, List.find?_eq_none]
  intro x hx
  rw [List.mem_range] at hx
  simpa using h x hx
theorem tenc_inj : ∀ k : Fin 4, ∀ x y : Fin 8, tk (k.val : Int) = true → x.val ≤ tmost (k.val : Int) → y.val ≤ tmost (k.val : Int) → tenc (k.val : Int) x.val = tenc (k.val : Int) y.val → x = y := by decide +kernel
theorem tenc_one {k : Int} {x y : Nat} (hk : tk k = true) (hx : x ≤ tmost k) (hy : y ≤ tmost k) (h : tenc k x = tenc k y) : x = y := by
  have l := tmost_le k
  rcases tk_cases hk with rfl | rfl | rfl
  · have := tenc_inj ⟨1, by omega⟩ ⟨x, by omega⟩ ⟨y, by omega⟩ hk hx hy h; simpa using this
  · have := tenc_inj ⟨2, by omega⟩ ⟨x, by omega⟩ ⟨y, by omega⟩ hk hx hy h; simpa using this
  · have := tenc_inj ⟨3, by omega⟩ ⟨x, by omega⟩ ⟨y, by omega⟩ hk hx hy h; simpa using this
theorem tfind_some {k : Int} {v : List Int} {x : Nat} (h : tfind k v = some x) : tk k = true ∧ x ≤ tmost k ∧ v = tenc k x := by
  unfold tfind at h
  split at h
  · rename_i hk
    have h1 := List.find?_some h
    have h2 := List.mem_of_find?_eq_some h
    rw [List.mem_range] at h2
    exact ⟨hk, by omega, by simpa using (of_decide_eq_true h1).symm⟩
  · cases h
theorem tfind_enc {k : Int} {x : Nat} (hk : tk k = true) (hx : x ≤ tmost k) : tfind k (tenc k x) = some x := by
  cases e : tfind k (tenc k x) with
  | none =>
    rw [tfind, if_pos hk, List.find?_eq_none] at e
    have := e x (by rw [List.mem_range]; omega)
    simp at this
  | some y =>
    obtain ⟨_, h1, h2⟩ := tfind_some e
    rw [tenc_one hk hx h1 h2]
theorem tok_enc {k : Int} {x : Nat} (hk : tk k = true) (hx : x ≤ tmost k) : tok k (tenc k x) = true := by rw [tok, tfind_enc hk hx]; rfl
theorem tval_enc {k : Int} {x : Nat} (hk : tk k = true) (hx : x ≤ tmost k) : tval k (tenc k x) = (x : Int) := by rw [tval, tfind_enc hk hx]; rfl
theorem tok_form {k : Int} {v : List Int} (h : tok k v = true) : ∃ x : Nat, tk k = true ∧ x ≤ tmost k ∧ v = tenc k x ∧ tval k v = (x : Int) := by
  unfold tok at h
  obtain ⟨x, hx⟩ := Option.isSome_iff_exists.1 h
  obtain ⟨h1, h2, h3⟩ := tfind_some hx
  exact ⟨x, h1, h2, h3, by rw [tval, hx]; rfl⟩
theorem tval_no {k : Int} {v : List Int} (h : tok k v = false) : tval k v = 0 := by
  unfold tok at h
  cases e : tfind k v with
  | none => rw [tval, e]; rfl
  | some y => rw [e] at h; cases h
/-- The sum. -/
def sm (v : List Int) : Nat → Int
  | 0 => 0
  | j + 1 => sm v j + v.getD j 0
/-- Each is 0 or 1, and of kind 2 they are together 1. -/
def Bits (k : Int) (v : List Int) : Prop := (∀ i, i < tlen k → v.getD i 0 = 0 ∨ v.getD i 0 = 1) ∧ (k = 2 → sm v (tlen k) = 1)
theorem enc_bits_all : ∀ x : Fin 4, sm (tenc 2 x.val) 4 = 1 := by decide +kernel
theorem bits_enc {k : Int} {x : Nat} (hk : tk k = true) (hx : x ≤ tmost k) : Bits k (tenc k x) := by
  refine ⟨fun i hi => by rw [tenc_get hi]; exact dig_two k x i, ?_⟩
  rintro rfl
  exact enc_bits_all ⟨x, by have : tmost 2 = 3 := rfl
                            omega⟩
theorem tok_len {k : Int} {v : List Int} (h : tok k v = true) : v.length = tlen k := by
  obtain ⟨x, _, _, rfl, _⟩ := tok_form h; exact tenc_len k x
theorem tok_bits {k : Int} {v : List Int} (h : tok k v = true) : Bits k v := by
  obtain ⟨x, h1, h2, rfl, _⟩ := tok_form h; exact bits_enc h1 h2
theorem bits_tok {k : Int} {v : List Int} (hk : tk k = true) (hl : v.length = tlen k) (h : Bits k v) : tok k v = true := by
  obtain ⟨h1, h2⟩ := h
  rcases tk_cases hk with rfl | rfl | rfl
  · match v, hl with
    | [a], _ =>
      have ha := h1 0 (by decide)
      simp at ha
      rcases ha with rfl | rfl <;> decide +kernel
  · match v, hl with
    | [a, b, c, d], _ =>
      have ha := h1 0 (by decide)
      have hb := h1 1 (by decide)
      have hc := h1 2 (by decide)
      have hd := h1 3 (by decide)
      have hs := h2 rfl
      simp at ha hb hc hd
      rcases ha with rfl | rfl <;> rcases hb with rfl | rfl <;> rcases hc with rfl | rfl <;> rcases hd with rfl | rfl <;> first | (exfalso; revert hs; decide) | decide +kernel
  · match v, hl with
    | [a, b, c], _ =>
      have ha := h1 0 (by decide)
      have hb := h1 1 (by decide)
      have hc := h1 2 (by decide)
      simp at ha hb hc
      rcases ha with rfl | rfl <;> rcases hb with rfl | rfl <;> rcases hc with rfl | rfl <;> decide +kernel
theorem tok_iff {k : Int} {v : List Int} : tok k v = true ↔ tk k = true ∧ v.length = tlen k ∧ Bits k v :=
  ⟨fun h => ⟨by obtain ⟨x, h1, _⟩ := tok_form h; exact h1, tok_len h, tok_bits h⟩, fun h => bits_tok h.1 h.2.1 h.2.2⟩
theorem tok_f {k : Int} {v : List Int} (h : ¬ (tk k = true ∧ v.length = tlen k ∧ Bits k v)) : tok k v = false := by
  cases e : tok k v
  · rfl
  · exact absurd (tok_iff.1 e) h
/-- As many numbers of the field as a kind has. -/
def tvec (k : Int) (v : List Int) : Bool := tk k && sok v && decide (v.length = tlen k)
theorem tvec_iff {k : Int} {v : List Int} : tvec k v = true ↔ tk k = true ∧ sok v = true ∧ v.length = tlen k := by simp [tvec, and_assoc]
theorem bits_sok {k : Int} {v : List Int} (hl : v.length = tlen k) (h : Bits k v) : sok v = true := by
  rw [sok_iff]
  refine ⟨by have := tlen_le k; omega, fun z hz => ?_⟩
  obtain ⟨i, hi, rfl⟩ := List.getElem_of_mem hz
  have := h.1 i (by omega)
  rw [List.getD_eq_getElem?_getD, List.getElem?_eq_getElem hi, Option.getD_some] at this
  rcases this with e | e <;> rw [e] <;> rfl
theorem tok_vec {k : Int} {v : List Int} (h : tok k v = true) : tvec k v = true := by
  obtain ⟨h1, h2, h3⟩ := tok_iff.1 h
  exact tvec_iff.2 ⟨h1, bits_sok h2 h3, h2⟩
theorem tok_nvec {k : Int} {v : List Int} (h : tvec k v = false) : tok k v = false := by
  cases e : tok k v
  · rfl
  · rw [tok_vec e] at h; cases h
theorem tvec_nk {k : Int} {v : List Int} (h : tk k = false) : tvec k v = false := by simp [tvec, h]
theorem tvec_ns {k : Int} {v : List Int} (h : sok v = false) : tvec k v = false := by simp [tvec, h]
theorem tvec_nl {k : Int} {v : List Int} (h : v.length ≠ tlen k) : tvec k v = false := by simp [tvec, h]
/-- How the model reads a value, from the last number on. -/
def vdown (k : Int) (v : List Int) : Nat → Int
  | 0 => 0
  | m + 1 => if k = 2 then vdown k v m + ((v.length - 1 - m : Nat) : Int) * v.getD (v.length - 1 - m) 0 else 2 * vdown k v m + v.getD (v.length - 1 - m) 0
theorem vdown_all : ∀ k : Fin 4, ∀ x : Fin 8, tk (k.val : Int) = true → x.val ≤ tmost (k.val : Int) → vdown (k.val : Int) (tenc (k.val : Int) x.val) (tlen (k.val : Int)) = (x.val : Int) ∧ ∀ m : Fin 5, 0 ≤ vdown (k.val : Int) (tenc (k.val : Int) x.val) m.val ∧ vdown (k.val : Int) (tenc (k.val : Int) x.val) m.val ≤ 1000 := by decide +kernel
theorem vdown_enc {k : Int} {x : Nat} (hk : tk k = true) (hx : x ≤ tmost k) : vdown k (tenc k x) (tlen k) = (x : Int) ∧ ∀ m, m ≤ 4 → 0 ≤ vdown k (tenc k x) m ∧ vdown k (tenc k x) m ≤ 1000 := by
  have l := tmost_le k
  rcases tk_cases hk with rfl | rfl | rfl
  · have := vdown_all ⟨1, by omega⟩ ⟨x, by omega⟩ hk hx; exact ⟨this.1, fun m hm => this.2 ⟨m, by omega⟩⟩
  · have := vdown_all ⟨2, by omega⟩ ⟨x, by omega⟩ hk hx; exact ⟨this.1, fun m hm => this.2 ⟨m, by omega⟩⟩
  · have := vdown_all ⟨3, by omega⟩ ⟨x, by omega⟩ hk hx; exact ⟨this.1, fun m hm => this.2 ⟨m, by omega⟩⟩
/-- The check, number by number. -/
def pw (d : Int) : Nat → Int
  | 0 => 1
  | j + 1 => pw d j * d % 31
def fa (a : Int) : Int := a * ((a - 1) % 31) % 31
def tt (v : List Int) (d : Int) : Nat → Int
  | 0 => 0
  | j + 1 => (tt v d j + pw d j * fa (v.getD j 0)) % 31
def sr (v : List Int) : Nat → Int
  | 0 => 0
  | j + 1 => (sr v j + v.getD j 0) % 31
def sur (k : Int) (v : List Int) : Int := if k = 2 then (sr v v.length - 1) % 31 else 0
def tchk (k : Int) (v : List Int) (d : Int) : Int := if tvec k v && ok d then (tt v d v.length + pw d v.length * sur k v) % 31 else 1
theorem tchk_eq {k : Int} {v : List Int} {d : Int} (h : tvec k v = true) (hd : ok d = true) : tchk k v d = (tt v d v.length + pw d v.length * sur k v) % 31 := by simp [tchk, h, hd]
theorem tchk_nv {k : Int} {v : List Int} {d : Int} (h : tvec k v = false) : tchk k v d = 1 := by simp [tchk, h]
theorem tchk_nd {k : Int} {v : List Int} {d : Int} (h : ok d = false) : tchk k v d = 1 := by simp [tchk, h]
theorem pw_ok (d : Int) (j : Nat) : ok (pw d j) = true := by cases j with
  | zero => rfl
  | succ j => exact emod_ok _
theorem tt_ok (v : List Int) (d : Int) (j : Nat) : ok (tt v d j) = true := by cases j with
  | zero => rfl
  | succ j => exact emod_ok _
theorem sr_ok (v : List Int) (j : Nat) : ok (sr v j) = true := by cases j with
  | zero => rfl
  | succ j => exact emod_ok _
theorem fa_ok (a : Int) : ok (fa a) = true := emod_ok _
theorem sur_ok (k : Int) (v : List Int) : ok (sur k v) = true := by unfold sur; split; exact emod_ok _; rfl
theorem sr_sm (v : List Int) (j : Nat) : sm v j % 31 = sr v j := by
  induction j with
  | zero => rfl
  | succ j ih => rw [sm, sr, ← ih]; omega
theorem sm_bd {v : List Int} (h : sok v = true) (j : Nat) : 0 ≤ sm v j ∧ sm v j ≤ 30 * (j : Int) := by
  induction j with
  | zero => exact ⟨Int.le_refl 0, by show (0 : Int) ≤ 30 * 0; omega⟩
  | succ j ih =>
    have := (ok_iff _).1 (sok_get h j)
    rw [sm]; omega
end Fp
end Go.Proofs.Ytlfmginnffdicaa
