/-
  Chapter 3: what can be put in shares; both functions that say so, of the program and of the model.
-/
import Derived.Test.YtmaapekmndjgiaaField
import Derived.Test.YtmaapekmndjgiaaLw
import Derived.Test.YtmaapekmndjgiaaPm
import Derived.Outline
import Derived.StillTailTactics
namespace Go.Proofs.Ytmaapekmndjgiaa
open Go.RowKit
set_option linter.unusedVariables false
set_option linter.unusedSimpArgs false
namespace Fp
def sok (p : List Int) : Bool := decide (p.length ≤ 20) && p.all ok
theorem sok_iff (p : List Int) : sok p = true ↔ p.length ≤ 20 ∧ ∀ z ∈ p, ok z = true := by simp [sok]
theorem sok_long {p : List Int} (h : 20 < p.length) : sok p = false := by
  simp only [sok, Bool.and_eq_false_iff, decide_eq_false_iff_not]; left; omega
theorem sok_bad {p : List Int} {k : Nat} (hk : k < p.length) (h : ok (p.getD k 0) = false) : sok p = false := by
  cases e : sok p
  · rfl
  · rw [sok_iff] at e
    have := e.2 (p.getD k 0) (by rw [List.getD_eq_getElem?_getD, List.getElem?_eq_getElem hk]; simp)
    rw [this] at h; cases h
theorem sok_all {p : List Int} (h : okTo p p.length) : sok p = decide (p.length ≤ 20) := by
  have : p.all ok = true := by
    rw [List.all_eq_true]
    intro z hz
    obtain ⟨i, hi, rfl⟩ := List.getElem_of_mem hz
    have := h i hi
    rwa [List.getD_eq_getElem?_getD, List.getElem?_eq_getElem hi, Option.getD_some] at this
  simp [sok, this]
theorem sok_get {p : List Int} (h : sok p = true) (k : Nat) : ok (p.getD k 0) = true := by
  rw [sok_iff] at h
  rcases Nat.lt_or_ge k p.length with hk | hk
  · rw [List.getD_eq_getElem?_getD, List.getElem?_eq_getElem hk]; exact h.2 _ (by simp)
  · rw [List.getD_eq_getElem?_getD, List.getElem?_eq_none hk]; rfl
theorem sok_len {p : List Int} (h : sok p = true) : p.length ≤ 20 := ((sok_iff p).1 h).1
theorem sok_take {zs : List Int} (h : sok zs = true) (k : Nat) : sok (zs.take k) = true := by
  rw [sok_iff] at h ⊢
  refine ⟨?_, fun z hz => h.2 z (List.mem_of_mem_take hz)⟩
  rw [List.length_take]; omega
end Fp
theorem impl_ShareOk (a : Option Addr) (n cap : Nat) (zs : List Int) (w : World) (h : Sl w a n zs) :
    Calls Try.prog 10 #[.slice a n cap] w fun e w' => e = .returned (.bool (Fp.sok zs)) ∧ w = w' := by
  have H := Lib.hid h
  have L := Lib.hid h.len
  clear h
  by_cases h9 : 20 < n
  · have E0 : Fp.sok zs = false := Fp.sok_long (by rw [L.out]; exact h9)
    rw [E0]; clear E0
    go_enter Try.func10, Try.ntmps10
    go_wp2
    go_ret
    exact ⟨rfl, rfl⟩
  · go_enter Try.func10, Try.ntmps10
    go_wp2
    go_loop [10] (fun i => ∃ k : Nat, k ≤ n ∧ Fp.okTo zs k ∧ i = .int .i64 k) (fun i => n - (intOf i).toNat)
    case atStart => exact ⟨0, by omega, Fp.okTo_zero _, rfl⟩
    case round =>
      obtain ⟨k, hk, ht, rfl⟩ := hrel
      have T := Lib.hid ht
      clear ht
      by_cases hlt : k < n
      · obtain ⟨b, off, z, rfl, hc, hz⟩ := H.out.get hlt
        cases hf : Fp.ok z
        · have E0 : Fp.sok zs = false := Fp.sok_bad (k := k) (by rw [L.out]; exact hlt) (by rw [← hz.out]; exact hf)
          have E := Lib.hid E0; clear E0
          go_wp2_with (go_at_call 17; (with_reducible refine (impl_FieldOk _ _).mono ?_); rintro e w' ⟨rfl, rfl⟩)
          go_ret
          exact ⟨by rw [E.out]; rfl, rfl⟩
        · have T2 := Lib.hid (Fp.okTo_succ T.out (by rw [← hz.out]; exact hf))
          go_wp2_with (go_at_call 17; (with_reducible refine (impl_FieldOk _ _).mono ?_); rintro e w' ⟨rfl, rfl⟩)
          go_round
          case rel => exact ⟨k + 1, by omega, T2.out, by go_num⟩
          case measure => simp [intOf]; omega
      · have E0 : Fp.sok zs = true := by
          have : k = zs.length := by rw [L.out]; omega
          rw [Fp.sok_all (by rw [← this]; exact T.out)]; simp; rw [L.out]; omega
        have E := Lib.hid E0; clear E0
        go_wp2
        go_ret
        exact ⟨by rw [E.out]; rfl, rfl⟩
theorem spec_ShareOk (a : Option Addr) (n cap : Nat) (zs : List Int) (w : World) (h : Sl w a n zs) (hm : n ≤ 1048576) :
    Calls Try.prog 8 #[.slice a n cap] w fun e w' => e = .returned (.bool (Fp.sok zs)) ∧ w = w' := by
  have H := Lib.hid h
  have L := Lib.hid h.len
  clear h
  go_enter Try.func8, Try.ntmps8
  go_wp2
  go_loop [3] (fun i => ∃ k : Nat, k ≤ n ∧ Fp.okTo zs k ∧ i = .int .i64 k) (fun i => n - (intOf i).toNat)
  case atStart => exact ⟨0, by omega, Fp.okTo_zero _, rfl⟩
  case round =>
    obtain ⟨k, hk, ht, rfl⟩ := hrel
    have T := Lib.hid ht
    clear ht
    by_cases hlt : k < n
    · obtain ⟨b, off, z, rfl, hc, hz⟩ := H.out.get hlt
      cases hf : Fp.ok z
      · have E0 : Fp.sok zs = false := Fp.sok_bad (k := k) (by rw [L.out]; exact hlt) (by rw [← hz.out]; exact hf)
        have E := Lib.hid E0; clear E0
        go_wp2_with (go_at_call 14; (with_reducible refine (spec_FieldOk _ _).mono ?_); rintro e w' ⟨rfl, rfl⟩)
        go_ret
        exact ⟨by rw [E.out]; rfl, rfl⟩
      · have T2 := Lib.hid (Fp.okTo_succ T.out (by rw [← hz.out]; exact hf))
        go_wp2_with (go_at_call 14; (with_reducible refine (spec_FieldOk _ _).mono ?_); rintro e w' ⟨rfl, rfl⟩)
        go_round
        case rel => exact ⟨k + 1, by omega, T2.out, by go_num⟩
        case measure => simp [intOf]; omega
    · have E0 : Fp.sok zs = decide (n ≤ 20) := by
        have : k = zs.length := by rw [L.out]; omega
        rw [Fp.sok_all (by rw [← this]; exact T.out), L.out]
      have E := Lib.hid E0; clear E0
      by_cases h9 : n ≤ 20
      · go_wp2
        go_ret
        exact ⟨by rw [E.out]; simp [h9]; omega, rfl⟩
      · go_wp2
        go_ret
        exact ⟨by rw [E.out]; simp [h9]; omega, rfl⟩
end Go.Proofs.Ytmaapekmndjgiaa
