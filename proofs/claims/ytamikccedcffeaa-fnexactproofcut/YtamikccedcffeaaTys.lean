/-
  Chapter 11: what the model's functions return.
-/
import Derived.Test.YtamikccedcffeaaTyn
import Derived.Deep.QuietTactic
import Derived.BigQuiet
namespace Go.Proofs.Ytamikccedcffeaa
open Go.RowKit
set_option linter.unusedVariables false
set_option linter.unusedSimpArgs false
theorem spec_TypeLen (k : Int) (w : World) :
    Calls Try.prog 25 #[.int .i64 k] w fun e w' => e = .returned (.int .i64 (Fp.tlen k : Int)) ∧ w = w' := by
  by_cases h1 : k = 1
  · subst h1
    go_enter Try.func25, Try.ntmps25
    go_wp2
    go_ret
    exact ⟨rfl, rfl⟩
  by_cases h2 : k = 2
  · subst h2
    go_enter Try.func25, Try.ntmps25
    go_wp2
    go_ret
    exact ⟨rfl, rfl⟩
  by_cases h3 : k = 3
  · subst h3
    go_enter Try.func25, Try.ntmps25
    go_wp2
    go_ret
    exact ⟨rfl, rfl⟩
  have e1 : Fp.tlen k = 0 := by simp [Fp.tlen, h1, h2, h3]
  have b1 := beqF h1
  have b2 := beqF h2
  have b3 := beqF h3
  clear h1 h2 h3
  rw [e1]; clear e1
  go_enter Try.func25, Try.ntmps25
  go_wp2
  go_ret
  exact ⟨rfl, rfl⟩
theorem spec_l11Kind (k : Int) (w : World) :
    Calls Try.prog 24 #[.int .i64 k] w fun e w' => e = .returned (.bool (Fp.tk k)) ∧ w = w' := by
  go_enter Try.func24, Try.ntmps24
  go_wp2_with (go_at_call 37; refine (spec_l6In _ _ _ _).mono ?_; rintro e w' ⟨rfl, rfl⟩)
  go_ret
  exact ⟨rfl, rfl⟩
theorem spec_l11Vec (k : Int) (a : Option Addr) (n cap : Nat) (zs : List Int) (w : World) (h : Sl w a n zs) (hm : n ≤ 1048576) :
    Calls Try.prog 27 #[.int .i64 k, .slice a n cap] w fun e w' => e = .returned (.bool (Fp.tvec k zs)) ∧ w = w' := by
  have H := Lib.hid h
  have L := Lib.hid h.len
  clear h
  cases hk : Fp.tk k
  · rw [Fp.tvec_nk hk]
    go_enter Try.func27, Try.ntmps27
    go_wp2_with (go_at_call 24; (with_reducible refine (spec_l11Kind _ _).mono ?_); rintro e w' ⟨rfl, rfl⟩)
    go_ret
    exact ⟨rfl, rfl⟩
  cases hs : Fp.sok zs
  · rw [Fp.tvec_ns hs]
    go_enter Try.func27, Try.ntmps27
    go_wp2_with (first | (go_at_call 24; (with_reducible refine (spec_l11Kind _ _).mono ?_); rintro e w' ⟨rfl, rfl⟩) | (go_at_call 33; refine (spec_ShareOk _ _ _ _ _ H.out hm).mono ?_; rintro e w' ⟨rfl, rfl⟩))
    go_ret
    exact ⟨rfl, rfl⟩
  by_cases hn : n = Fp.tlen k
  · have E : Fp.tvec k zs = true := Fp.tvec_iff.2 ⟨hk, hs, by rw [L.out]; exact hn⟩
    rw [E]
    have hb : ((n : Int) == (Fp.tlen k : Int)) = true := beqT (by omega)
    clear E hn
    go_enter Try.func27, Try.ntmps27
    go_wp2_with (first | (go_at_call 24; (with_reducible refine (spec_l11Kind _ _).mono ?_); rintro e w' ⟨rfl, rfl⟩) | (go_at_call 33; refine (spec_ShareOk _ _ _ _ _ H.out hm).mono ?_; rintro e w' ⟨rfl, rfl⟩) | (go_at_call 25; (with_reducible refine (spec_TypeLen _ _).mono ?_); rintro e w' ⟨rfl, rfl⟩))
    go_ret
    exact ⟨rfl, rfl⟩
  · have E : Fp.tvec k zs = false := Fp.tvec_nl (by rw [L.out]; exact hn)
    rw [E]
    have hb : ((n : Int) == (Fp.tlen k : Int)) = false := beqF (by omega)
    clear E hn
    go_enter Try.func27, Try.ntmps27
    go_wp2_with (first | (go_at_call 24; (with_reducible refine (spec_l11Kind _ _).mono ?_); rintro e w' ⟨rfl, rfl⟩) | (go_at_call 33; refine (spec_ShareOk _ _ _ _ _ H.out hm).mono ?_; rintro e w' ⟨rfl, rfl⟩) | (go_at_call 25; (with_reducible refine (spec_TypeLen _ _).mono ?_); rintro e w' ⟨rfl, rfl⟩))
    go_ret
    exact ⟨rfl, rfl⟩
end Go.Proofs.Ytamikccedcffeaa
