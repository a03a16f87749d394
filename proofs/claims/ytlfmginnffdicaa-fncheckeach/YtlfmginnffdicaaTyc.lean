/-
  Chapter 11: what TypeCheck returns.
-/
import Derived.Test.YtlfmginnffdicaaTyn
namespace Go.Proofs.Ytlfmginnffdicaa
open Go.RowKit
set_option linter.unusedVariables false
set_option linter.unusedSimpArgs false
theorem impl_TypeCheck1 (a : Option Addr) (cap : Nat) (zs : List Int) (x : Int) (w : World) (h : Sl w a 1 zs) (hs : Fp.sok zs = true) (hx : Fp.ok x = true) :
    Calls Try.prog 13 #[.int .i64 1, .slice a 1 cap, .int .i64 x] w (Bel (.int .i64 ((Fp.tt zs x 1 + Fp.pw x 1 * Fp.sur 1 zs) % 31)) w) := by
  have H := Lib.hid h
  clear h
  go_enter Try.func13, Try.ntmps13
  go_wp2_with (first | (go_at_call 32; refine (impl_mo1 _).mono ?_; rintro e w' ⟨rfl, rfl⟩) | (go_at_call 73; refine (impl_bit_size _).mono ?_; rintro e w1 ⟨rfl, b1⟩) | (go_at_call 33; refine (impl_ShareOk _ _ _ _ _ (H.out.below b1)).mono ?_; rintro e w' ⟨rfl, rfl⟩) | (go_at_call 34; refine (impl_FieldOk _ _).mono ?_; rintro e w' ⟨rfl, rfl⟩))
  have H1 := Lib.hid (H.out.below b1)
  have B1 := Lib.hid b1
  clear b1 H
  go_loop [9, 10, 40] (fun t p i => ∃ j : Nat, j ≤ 1 ∧ t = .int .i64 (Fp.tt zs x j) ∧ p = .int .i64 (Fp.pw x j) ∧ i = .int .i64 j) (fun _ _ i => 1 - (intOf i).toNat)
  case atStart => exact ⟨0, by omega, rfl, rfl, rfl⟩
  case round =>
    obtain ⟨j, hj, rfl, rfl, rfl⟩ := hrel
    by_cases hlt : j < 1
    · obtain ⟨b, off, z, rfl, hc, hz⟩ := H1.out.get hlt
      have hzo : Fp.ok z = true := by rw [hz.out]; exact Fp.sok_get hs j
      have E1 : Hid (Fp.tt zs x (j + 1) = (Fp.tt zs x j + Fp.pw x j * (z * ((z - 1) % 31) % 31)) % 31) := by show _ = _; rw [Fp.tt, ← hz.out]; rfl
      have E2 : Hid (Fp.pw x (j + 1) = Fp.pw x j * x % 31) := rfl
      go_wp2_with (first | (go_at_call 36; refine (impl_minus _ _ _ hzo rfl).mono ?_; rintro e w' ⟨rfl, rfl⟩) | (go_at_call 35; refine (impl_times _ _ _ (by first | exact hzo | exact Fp.pw_ok _ _) (by first | exact hx | exact Fp.emod_ok _)).mono ?_; rintro e w' ⟨rfl, rfl⟩) | (go_at_call 37; refine (impl_plus _ _ _ (Fp.tt_ok _ _ _) (Fp.emod_ok _)).mono ?_; rintro e w' ⟨rfl, rfl⟩))
      go_round
      case rel => exact ⟨j + 1, by omega, by rw [E1.out], by rw [E2.out], by go_num⟩
      case measure => simp [intOf]; omega
    · have e : j = 1 := by omega
      subst e
      go_wp2_with (first | (go_at_call 38; refine (impl_surplus1 _ _ _ _ _ H1.out hs).mono ?_; rintro e w' ⟨rfl, rfl⟩) | (go_at_call 35; refine (impl_times _ _ _ (Fp.pw_ok _ _) (Fp.sur_ok _ _)).mono ?_; rintro e w' ⟨rfl, rfl⟩) | (go_at_call 37; refine (impl_plus _ _ _ (Fp.tt_ok _ _ _) (Fp.emod_ok _)).mono ?_; rintro e w' ⟨rfl, rfl⟩))
      go_ret
      exact ⟨rfl, B1.out⟩
theorem impl_TypeCheck1_no (a : Option Addr) (n cap : Nat) (zs : List Int) (x : Int) (w : World) (h : Sl w a n zs) (hh : n ≠ 1 ∨ Fp.sok zs = false ∨ Fp.ok x = false) :
    Calls Try.prog 13 #[.int .i64 1, .slice a n cap, .int .i64 x] w (Bel (.int .i64 1) w) := by
  have H := Lib.hid h
  clear h
  by_cases hn : n = 1
  · subst hn
    cases hs : Fp.sok zs
    · go_enter Try.func13, Try.ntmps13
      go_wp2_with (first | (go_at_call 32; refine (impl_mo1 _).mono ?_; rintro e w' ⟨rfl, rfl⟩) | (go_at_call 73; refine (impl_bit_size _).mono ?_; rintro e w1 ⟨rfl, b1⟩) | (go_at_call 33; refine (impl_ShareOk _ _ _ _ _ (H.out.below b1)).mono ?_; rintro e w' ⟨rfl, rfl⟩))
      go_ret
      exact ⟨rfl, b1⟩
    · have hx : Fp.ok x = false := by
        rcases hh with hh | hh | hh
        · exact absurd rfl hh
        · rw [hh] at hs; cases hs
        · exact hh
      clear hh
      go_enter Try.func13, Try.ntmps13
      go_wp2_with (first | (go_at_call 32; refine (impl_mo1 _).mono ?_; rintro e w' ⟨rfl, rfl⟩) | (go_at_call 73; refine (impl_bit_size _).mono ?_; rintro e w1 ⟨rfl, b1⟩) | (go_at_call 33; refine (impl_ShareOk _ _ _ _ _ (H.out.below b1)).mono ?_; rintro e w' ⟨rfl, rfl⟩) | (go_at_call 34; refine (impl_FieldOk _ _).mono ?_; rintro e w' ⟨rfl, rfl⟩))
      go_ret
      exact ⟨rfl, b1⟩
  · have ei : ((n : Int) != 1) = true := by simp; omega
    clear hn hh
    go_enter Try.func13, Try.ntmps13
    go_wp2_with (first | (go_at_call 32; refine (impl_mo1 _).mono ?_; rintro e w' ⟨rfl, rfl⟩) | (go_at_call 73; refine (impl_bit_size _).mono ?_; rintro e w1 ⟨rfl, b1⟩))
    go_ret
    exact ⟨rfl, b1⟩
theorem impl_TypeCheck2 (a : Option Addr) (cap : Nat) (zs : List Int) (x : Int) (w : World) (h : Sl w a 4 zs) (hs : Fp.sok zs = true) (hx : Fp.ok x = true) :
    Calls Try.prog 13 #[.int .i64 2, .slice a 4 cap, .int .i64 x] w (Bel (.int .i64 ((Fp.tt zs x 4 + Fp.pw x 4 * Fp.sur 2 zs) % 31)) w) := by
  have H := Lib.hid h
  clear h
  go_enter Try.func13, Try.ntmps13
  go_wp2_with (first | (go_at_call 32; refine (impl_mo2 _).mono ?_; rintro e w' ⟨rfl, rfl⟩) | (go_at_call 76; refine (impl_pick_size _).mono ?_; rintro e w1 ⟨rfl, b1⟩) | (go_at_call 33; refine (impl_ShareOk _ _ _ _ _ (H.out.below b1)).mono ?_; rintro e w' ⟨rfl, rfl⟩) | (go_at_call 34; refine (impl_FieldOk _ _).mono ?_; rintro e w' ⟨rfl, rfl⟩))
  have H1 := Lib.hid (H.out.below b1)
  have B1 := Lib.hid b1
  clear b1 H
  go_loop [9, 10, 40] (fun t p i => ∃ j : Nat, j ≤ 4 ∧ t = .int .i64 (Fp.tt zs x j) ∧ p = .int .i64 (Fp.pw x j) ∧ i = .int .i64 j) (fun _ _ i => 4 - (intOf i).toNat)
  case atStart => exact ⟨0, by omega, rfl, rfl, rfl⟩
  case round =>
    obtain ⟨j, hj, rfl, rfl, rfl⟩ := hrel
    by_cases hlt : j < 4
    · obtain ⟨b, off, z, rfl, hc, hz⟩ := H1.out.get hlt
      have hzo : Fp.ok z = true := by rw [hz.out]; exact Fp.sok_get hs j
      have E1 : Hid (Fp.tt zs x (j + 1) = (Fp.tt zs x j + Fp.pw x j * (z * ((z - 1) % 31) % 31)) % 31) := by show _ = _; rw [Fp.tt, ← hz.out]; rfl
      have E2 : Hid (Fp.pw x (j + 1) = Fp.pw x j * x % 31) := rfl
      go_wp2_with (first | (go_at_call 36; refine (impl_minus _ _ _ hzo rfl).mono ?_; rintro e w' ⟨rfl, rfl⟩) | (go_at_call 35; refine (impl_times _ _ _ (by first | exact hzo | exact Fp.pw_ok _ _) (by first | exact hx | exact Fp.emod_ok _)).mono ?_; rintro e w' ⟨rfl, rfl⟩) | (go_at_call 37; refine (impl_plus _ _ _ (Fp.tt_ok _ _ _) (Fp.emod_ok _)).mono ?_; rintro e w' ⟨rfl, rfl⟩))
      go_round
      case rel => exact ⟨j + 1, by omega, by rw [E1.out], by rw [E2.out], by go_num⟩
      case measure => simp [intOf]; omega
    · have e : j = 4 := by omega
      subst e
      go_wp2_with (first | (go_at_call 38; refine (impl_surplus2 _ _ _ _ _ H1.out hs).mono ?_; rintro e w' ⟨rfl, rfl⟩) | (go_at_call 35; refine (impl_times _ _ _ (Fp.pw_ok _ _) (Fp.sur_ok _ _)).mono ?_; rintro e w' ⟨rfl, rfl⟩) | (go_at_call 37; refine (impl_plus _ _ _ (Fp.tt_ok _ _ _) (Fp.emod_ok _)).mono ?_; rintro e w' ⟨rfl, rfl⟩))
      go_ret
      exact ⟨rfl, B1.out⟩
theorem impl_TypeCheck2_no (a : Option Addr) (n cap : Nat) (zs : List Int) (x : Int) (w : World) (h : Sl w a n zs) (hh : n ≠ 4 ∨ Fp.sok zs = false ∨ Fp.ok x = false) :
    Calls Try.prog 13 #[.int .i64 2, .slice a n cap, .int .i64 x] w (Bel (.int .i64 1) w) := by
  have H := Lib.hid h
  clear h
  by_cases hn : n = 4
  · subst hn
    cases hs : Fp.sok zs
    · go_enter Try.func13, Try.ntmps13
      go_wp2_with (first | (go_at_call 32; refine (impl_mo2 _).mono ?_; rintro e w' ⟨rfl, rfl⟩) | (go_at_call 76; refine (impl_pick_size _).mono ?_; rintro e w1 ⟨rfl, b1⟩) | (go_at_call 33; refine (impl_ShareOk _ _ _ _ _ (H.out.below b1)).mono ?_; rintro e w' ⟨rfl, rfl⟩))
      go_ret
      exact ⟨rfl, b1⟩
    · have hx : Fp.ok x = false := by
        rcases hh with hh | hh | hh
        · exact absurd rfl hh
        · rw [hh] at hs; cases hs
        · exact hh
      clear hh
      go_enter Try.func13, Try.ntmps13
      go_wp2_with (first | (go_at_call 32; refine (impl_mo2 _).mono ?_; rintro e w' ⟨rfl, rfl⟩) | (go_at_call 76; refine (impl_pick_size _).mono ?_; rintro e w1 ⟨rfl, b1⟩) | (go_at_call 33; refine (impl_ShareOk _ _ _ _ _ (H.out.below b1)).mono ?_; rintro e w' ⟨rfl, rfl⟩) | (go_at_call 34; refine (impl_FieldOk _ _).mono ?_; rintro e w' ⟨rfl, rfl⟩))
      go_ret
      exact ⟨rfl, b1⟩
  · have ei : ((n : Int) != 4) = true := by simp; omega
    clear hn hh
    go_enter Try.func13, Try.ntmps13
    go_wp2_with (first | (go_at_call 32; refine (impl_mo2 _).mono ?_; rintro e w' ⟨rfl, rfl⟩) | (go_at_call 76; refine (impl_pick_size _).mono ?_; rintro e w1 ⟨rfl, b1⟩))
    go_ret
    exact ⟨rfl, b1⟩
theorem impl_TypeCheck3 (a : Option Addr) (cap : Nat) (zs : List Int) (x : Int) (w : World) (h : Sl w a 3 zs) (hs : Fp.sok zs = true) (hx : Fp.ok x = true) :
    Calls Try.prog 13 #[.int .i64 3, .slice a 3 cap, .int .i64 x] w (Bel (.int .i64 ((Fp.tt zs x 3 + Fp.pw x 3 * Fp.sur 3 zs) % 31)) w) := by
  have H := Lib.hid h
  clear h
  go_enter Try.func13, Try.ntmps13
  go_wp2_with (first | (go_at_call 32; refine (impl_mo3 _).mono ?_; rintro e w' ⟨rfl, rfl⟩) | (go_at_call 79; refine (impl_num_size _).mono ?_; rintro e w1 ⟨rfl, b1⟩) | (go_at_call 33; refine (impl_ShareOk _ _ _ _ _ (H.out.below b1)).mono ?_; rintro e w' ⟨rfl, rfl⟩) | (go_at_call 34; refine (impl_FieldOk _ _).mono ?_; rintro e w' ⟨rfl, rfl⟩))
  have H1 := Lib.hid (H.out.below b1)
  have B1 := Lib.hid b1
  clear b1 H
  go_loop [9, 10, 40] (fun t p i => ∃ j : Nat, j ≤ 3 ∧ t = .int .i64 (Fp.tt zs x j) ∧ p = .int .i64 (Fp.pw x j) ∧ i = .int .i64 j) (fun _ _ i => 3 - (intOf i).toNat)
  case atStart => exact ⟨0, by omega, rfl, rfl, rfl⟩
  case round =>
    obtain ⟨j, hj, rfl, rfl, rfl⟩ := hrel
    by_cases hlt : j < 3
    · obtain ⟨b, off, z, rfl, hc, hz⟩ := H1.out.get hlt
      have hzo : Fp.ok z = true := by rw [hz.out]; exact Fp.sok_get hs j
      have E1 : Hid (Fp.tt zs x (j + 1) = (Fp.tt zs x j + Fp.pw x j * (z * ((z - 1) % 31) % 31)) % 31) := by show _ = _; rw [Fp.tt, ← hz.out]; rfl
      have E2 : Hid (Fp.pw x (j + 1) = Fp.pw x j * x % 31) := rfl
      go_wp2_with (first | (go_at_call 36; refine (impl_minus _ _ _ hzo rfl).mono ?_; rintro e w' ⟨rfl, rfl⟩) | (go_at_call 35; refine (impl_times _ _ _ (by first | exact hzo | exact Fp.pw_ok _ _) (by first | exact hx | exact Fp.emod_ok _)).mono ?_; rintro e w' ⟨rfl, rfl⟩) | (go_at_call 37; refine (impl_plus _ _ _ (Fp.tt_ok _ _ _) (Fp.emod_ok _)).mono ?_; rintro e w' ⟨rfl, rfl⟩))
      go_round
      case rel => exact ⟨j + 1, by omega, by rw [E1.out], by rw [E2.out], by go_num⟩
      case measure => simp [intOf]; omega
    · have e : j = 3 := by omega
      subst e
      go_wp2_with (first | (go_at_call 38; refine (impl_surplus3 _ _ _ _ _ H1.out hs).mono ?_; rintro e w' ⟨rfl, rfl⟩) | (go_at_call 35; refine (impl_times _ _ _ (Fp.pw_ok _ _) (Fp.sur_ok _ _)).mono ?_; rintro e w' ⟨rfl, rfl⟩) | (go_at_call 37; refine (impl_plus _ _ _ (Fp.tt_ok _ _ _) (Fp.emod_ok _)).mono ?_; rintro e w' ⟨rfl, rfl⟩))
      go_ret
      exact ⟨rfl, B1.out⟩
theorem impl_TypeCheck3_no (a : Option Addr) (n cap : Nat) (zs : List Int) (x : Int) (w : World) (h : Sl w a n zs) (hh : n ≠ 3 ∨ Fp.sok zs = false ∨ Fp.ok x = false) :
    Calls Try.prog 13 #[.int .i64 3, .slice a n cap, .int .i64 x] w (Bel (.int .i64 1) w) := by
  have H := Lib.hid h
  clear h
  by_cases hn : n = 3
  · subst hn
    cases hs : Fp.sok zs
    · go_enter Try.func13, Try.ntmps13
      go_wp2_with (first | (go_at_call 32; refine (impl_mo3 _).mono ?_; rintro e w' ⟨rfl, rfl⟩) | (go_at_call 79; refine (impl_num_size _).mono ?_; rintro e w1 ⟨rfl, b1⟩) | (go_at_call 33; refine (impl_ShareOk _ _ _ _ _ (H.out.below b1)).mono ?_; rintro e w' ⟨rfl, rfl⟩))
      go_ret
      exact ⟨rfl, b1⟩
    · have hx : Fp.ok x = false := by
        rcases hh with hh | hh | hh
        · exact absurd rfl hh
        · rw [hh] at hs; cases hs
        · exact hh
      clear hh
      go_enter Try.func13, Try.ntmps13
      go_wp2_with (first | (go_at_call 32; refine (impl_mo3 _).mono ?_; rintro e w' ⟨rfl, rfl⟩) | (go_at_call 79; refine (impl_num_size _).mono ?_; rintro e w1 ⟨rfl, b1⟩) | (go_at_call 33; refine (impl_ShareOk _ _ _ _ _ (H.out.below b1)).mono ?_; rintro e w' ⟨rfl, rfl⟩) | (go_at_call 34; refine (impl_FieldOk _ _).mono ?_; rintro e w' ⟨rfl, rfl⟩))
      go_ret
      exact ⟨rfl, b1⟩
  · have ei : ((n : Int) != 3) = true := by simp; omega
    clear hn hh
    go_enter Try.func13, Try.ntmps13
    go_wp2_with (first | (go_at_call 32; refine (impl_mo3 _).mono ?_; rintro e w' ⟨rfl, rfl⟩) | (go_at_call 79; refine (impl_num_size _).mono ?_; rintro e w1 ⟨rfl, b1⟩))
    go_ret
    exact ⟨rfl, b1⟩
theorem impl_TypeCheck (k : Int) (a : Option Addr) (n cap : Nat) (zs : List Int) (x : Int) (w : World) (h : Sl w a n zs) :
    Calls Try.prog 13 #[.int .i64 k, .slice a n cap, .int .i64 x] w (Bel (.int .i64 (Fp.tchk k zs x)) w) := by
  have L := h.len
  cases hk : Fp.tk k
  · rw [Fp.tchk_nv (Fp.tvec_nk hk)]
    clear L
    have H := Lib.hid h
    clear h
    go_enter Try.func13, Try.ntmps13
    go_wp2_with (go_at_call 32; refine (impl_mo0 _ _ hk).mono ?_; rintro e w' ⟨rfl, rfl⟩)
    go_ret
    exact ⟨rfl, Below.refl _ _⟩
  by_cases hh : n = Fp.tlen k ∧ Fp.sok zs = true ∧ Fp.ok x = true
  · obtain ⟨hn, hs, hx⟩ := hh
    rw [Fp.tchk_eq (Fp.tvec_iff.2 ⟨hk, hs, by rw [L]; exact hn⟩) hx, L]
    subst hn
    rcases Fp.tk_cases hk with rfl | rfl | rfl
    · exact impl_TypeCheck1 a cap zs x w h hs hx
    · exact impl_TypeCheck2 a cap zs x w h hs hx
    · exact impl_TypeCheck3 a cap zs x w h hs hx
  · have hh' : n ≠ Fp.tlen k ∨ Fp.sok zs = false ∨ Fp.ok x = false := by
      by_cases h1 : n = Fp.tlen k
      · cases h2 : Fp.sok zs
        · exact .inr (.inl rfl)
        · cases h3 : Fp.ok x
          · exact .inr (.inr rfl)
          · exact absurd ⟨h1, h2, h3⟩ hh
      · exact .inl h1
    have E : Fp.tchk k zs x = 1 := by
      rcases hh' with h1 | h1 | h1
      · exact Fp.tchk_nv (Fp.tvec_nl (by rw [L]; exact h1))
      · exact Fp.tchk_nv (Fp.tvec_ns h1)
      · exact Fp.tchk_nd h1
    rw [E]
    rcases Fp.tk_cases hk with rfl | rfl | rfl
    · exact impl_TypeCheck1_no a n cap zs x w h hh'
    · exact impl_TypeCheck2_no a n cap zs x w h hh'
    · exact impl_TypeCheck3_no a n cap zs x w h hh'
end Go.Proofs.Ytlfmginnffdicaa
