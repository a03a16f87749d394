/-
  Each number is 0 or 1, of one of four just one is 1: the law FnTypeOk returns true for every code.
  Conditions: none but the statement's own. Proved: Rows.FnTypeOkSaid.
-/
import Derived.Test.YtlpfogkfjjbklabRows
import Derived.WalkKit
import Derived.ProofKit
import Derived.OpenShut
import Derived.ShutString
import Derived.ChangeOld
import Derived.Below
import Derived.Test.YtlpfogkfjjbklabFp
import Derived.Test.YtlpfogkfjjbklabBase
import Derived.Test.YtlpfogkfjjbklabField
import Derived.Test.YtlpfogkfjjbklabSl
import Derived.Test.YtlpfogkfjjbklabLw
import Derived.Test.YtlpfogkfjjbklabPm
import Derived.Test.YtlpfogkfjjbklabShok
import Derived.Test.YtlpfogkfjjbklabTy
import Derived.Test.YtlpfogkfjjbklabTym
import Derived.Test.YtlpfogkfjjbklabTyn
import Derived.Test.YtlpfogkfjjbklabTys
import Derived.Test.YtlpfogkfjjbklabTyr
import Derived.Test.YtlpfogkfjjbklabDraw
import Derived.Test.YtlpfogkfjjbklabDlist
import Derived.Test.YtlpfogkfjjbklabTyd
namespace Go.Proofs.Ytlpfogkfjjbklab.fnTypeOk
open Go.ChangeShapes Go.WideShapes Go.ChangeAt Go.RowKit
open Go.ChangeMaps (open_string shut_string)
set_option linter.unusedVariables false
set_option linter.unusedSimpArgs false

theorem own : ownKnob Try.prog.godebug = none := by kernel_rfl
theorem laidOut : laidOutB Try.prog = true := by kernel_rfl

set_option maxHeartbeats 1000000 in
set_option maxRecDepth 100000 in
theorem walk (a0 : Option Addr) (len0 cap0 : Nat) (z0 : List Int) (w : World) (w0 : IsRow .u8 w a0 len0 cap0 z0) :
    Calls Try.prog 5 #[.slice a0 len0 cap0] w fun e w' => e = .returned (.bool true) ∧ Below w.heap.size w w' := by
  obtain ⟨c1, c2⟩ := w0.sizes
  have Hb := Lib.hid (Bys.of_row w0)
  clear w0
  by_cases hl : 1048576 < len0
  · go_enter Try.func5, Try.ntmps5
    go_wp2
    go_ret
    exact ⟨rfl, Below.refl _ _⟩
  have B := Lib.hid (Below.refl w.heap.size w)
  go_enter Try.func5, Try.ntmps5
  go_wp2_with fail
  refine (spec_DrawTypeOk a0 len0 cap0 w Hb.out c1 c2).mono ?_
  rintro e W1 ⟨k, a_p, n_p, c_p, zs, k1, k2, h_p, rfl, o_p, b_d⟩
  have Z_W1 : w.heap.size ≤ W1.heap.size := b_d.size
  have O_p := Lib.hid o_p
  have L_p := Lib.hid o_p.len
  replace B := Lib.hid (B.out.trans (b_d.mono B.out.size))
  clear b_d o_p
  clear c1 c2
  go_wp2_with fail
  refine (impl_TypeOk _ _ _ _ _ _ O_p.out.sl).mono ?_
  rintro e W2 hd
  obtain ⟨rfl, b_d⟩ := hd.below
  have Z_W2 : W1.heap.size ≤ W2.heap.size := b_d.size
  clear hd
  replace O_p := Lib.hid (O_p.out.below b_d)
  replace B := Lib.hid (B.out.trans (b_d.mono B.out.size))
  clear b_d
  go_wp2_with fail
  refine (spec_TypeOk _ _ _ _ _ _ O_p.out.sl (by omega)).mono ?_
  rintro e w' ⟨rfl, rfl⟩
  have tb : (Fp.tok k zs != Fp.tok k zs) = false := by simp
  go_wp2_with fail
  refine (impl_TypeLen _ _).mono ?_
  rintro e W3 hd
  obtain ⟨rfl, b_d⟩ := hd.below
  have Z_W3 : W2.heap.size ≤ W3.heap.size := b_d.size
  clear hd
  replace O_p := Lib.hid (O_p.out.below b_d)
  replace B := Lib.hid (B.out.trans (b_d.mono B.out.size))
  clear b_d
  cases hk : Fp.tk k
  · skip
    rw [Fp.tlen_no hk]
    have HU : Hid (false = (Fp.tk k && decide (n_p = Fp.tlen k))) := by show _ = _; rw [hk]; rfl
    clear hk
    go_wp2
    go_loop [6, 7, 8] (fun c t i => ∃ (j : Nat) (u : Bool) (s : Int), j ≤ n_p ∧ Hid (u = Fp.cb zs false j) ∧ Hid (s = Fp.ss zs j) ∧ c = .bool u ∧ t = .int .i64 s ∧ i = .int .i64 j) (fun _ _ i => n_p - (intOf i).toNat)
    case atStart => exact ⟨0, false, 0, by omega, rfl, rfl, rfl, rfl, rfl⟩
    case round =>
      obtain ⟨j, u, s, hj, U, S, rfl, rfl, rfl⟩ := hrel
      have sb := Fp.ss_bd zs j
      rw [← S.out] at sb
      obtain ⟨s0, s1⟩ := sb
      by_cases hlt : j < n_p
      · obtain ⟨b, off, z, rfl, hcz, hz⟩ := O_p.out.sl.get hlt
        have hz3 : z ≤ 0 ∨ (0 < z ∧ z < 9) ∨ 9 ≤ z := by omega
        have hz5 : z = 0 ∨ z = 1 ∨ (z ≠ 0 ∧ z ≠ 1) := by omega
        cases u
        · clear hz5
          rcases hz3 with h3 | ⟨h3, h4⟩ | h3
          · skip
            have d1 : decide (0 < z) = false := decide_eq_false (by omega)
            have U2 : Hid (false = Fp.cb zs false (j + 1)) := by show _ = _; rw [Fp.cb, ← U.out, ← hz.out]; rfl
            have S2 : Hid (s = Fp.ss zs (j + 1)) := by show _ = _; rw [Fp.ss, ← S.out, ← hz.out]; rw [if_neg (by omega)]; omega
            go_wp2
            go_round
            case rel => exact ⟨j + 1, false, s, by omega, U2.out, S2.out, rfl, rfl, by go_num⟩
            case measure => simp [intOf]; omega
          · skip
            have d1 : decide (0 < z) = true := decide_eq_true h3
            have d2 : decide (z < 9) = true := decide_eq_true h4
            have U2 : Hid (false = Fp.cb zs false (j + 1)) := by show _ = _; rw [Fp.cb, ← U.out, ← hz.out]; rfl
            have S2 : Hid (s + z = Fp.ss zs (j + 1)) := by show _ = _; rw [Fp.ss, ← S.out, ← hz.out]; rw [if_pos ⟨h3, h4⟩]
            go_wp2
            go_round
            case rel => exact ⟨j + 1, false, s + z, by omega, U2.out, S2.out, rfl, rfl, by go_num⟩
            case measure => simp [intOf]; omega
          · skip
            have d1 : decide (0 < z) = true := decide_eq_true (by omega)
            have d2 : decide (z < 9) = false := decide_eq_false (by omega)
            have U2 : Hid (false = Fp.cb zs false (j + 1)) := by show _ = _; rw [Fp.cb, ← U.out, ← hz.out]; rfl
            have S2 : Hid (s = Fp.ss zs (j + 1)) := by show _ = _; rw [Fp.ss, ← S.out, ← hz.out]; rw [if_neg (by omega)]; omega
            go_wp2
            go_round
            case rel => exact ⟨j + 1, false, s, by omega, U2.out, S2.out, rfl, rfl, by go_num⟩
            case measure => simp [intOf]; omega
        · skip
          rcases hz5 with rfl | rfl | hz5
          · skip
            have U2 : Hid (true = Fp.cb zs false (j + 1)) := by show _ = _; rw [Fp.cb, ← U.out, ← hz.out]; rfl
            have S2 : Hid (s = Fp.ss zs (j + 1)) := by show _ = _; rw [Fp.ss, ← S.out, ← hz.out]; simp
            go_wp2
            go_round
            case rel => exact ⟨j + 1, true, s, by omega, U2.out, S2.out, rfl, rfl, by go_num⟩
            case measure => simp [intOf]; omega
          · skip
            have U2 : Hid (true = Fp.cb zs false (j + 1)) := by show _ = _; rw [Fp.cb, ← U.out, ← hz.out]; rfl
            have S2 : Hid (s + 1 = Fp.ss zs (j + 1)) := by show _ = _; rw [Fp.ss, ← S.out, ← hz.out]; simp
            go_wp2
            go_round
            case rel => exact ⟨j + 1, true, s + 1, by omega, U2.out, S2.out, rfl, rfl, by go_num⟩
            case measure => simp [intOf]; omega
          · have zb0 := beqF hz5.1
            have zb1 := beqF hz5.2
            rcases hz3 with h3 | ⟨h3, h4⟩ | h3
            · skip
              have d1 : decide (0 < z) = false := decide_eq_false (by omega)
              have U2 : Hid (false = Fp.cb zs false (j + 1)) := by show _ = _; rw [Fp.cb, ← U.out, ← hz.out]; rw [zb0, zb1]; rfl
              have S2 : Hid (s = Fp.ss zs (j + 1)) := by show _ = _; rw [Fp.ss, ← S.out, ← hz.out]; rw [if_neg (by omega)]; omega
              go_wp2
              go_round
              case rel => exact ⟨j + 1, false, s, by omega, U2.out, S2.out, rfl, rfl, by go_num⟩
              case measure => simp [intOf]; omega
            · skip
              have d1 : decide (0 < z) = true := decide_eq_true h3
              have d2 : decide (z < 9) = true := decide_eq_true h4
              have U2 : Hid (false = Fp.cb zs false (j + 1)) := by show _ = _; rw [Fp.cb, ← U.out, ← hz.out]; rw [zb0, zb1]; rfl
              have S2 : Hid (s + z = Fp.ss zs (j + 1)) := by show _ = _; rw [Fp.ss, ← S.out, ← hz.out]; rw [if_pos ⟨h3, h4⟩]
              go_wp2
              go_round
              case rel => exact ⟨j + 1, false, s + z, by omega, U2.out, S2.out, rfl, rfl, by go_num⟩
              case measure => simp [intOf]; omega
            · skip
              have d1 : decide (0 < z) = true := decide_eq_true (by omega)
              have d2 : decide (z < 9) = false := decide_eq_false (by omega)
              have U2 : Hid (false = Fp.cb zs false (j + 1)) := by show _ = _; rw [Fp.cb, ← U.out, ← hz.out]; rw [zb0, zb1]; rfl
              have S2 : Hid (s = Fp.ss zs (j + 1)) := by show _ = _; rw [Fp.ss, ← S.out, ← hz.out]; rw [if_neg (by omega)]; omega
              go_wp2
              go_round
              case rel => exact ⟨j + 1, false, s, by omega, U2.out, S2.out, rfl, rfl, by go_num⟩
              case measure => simp [intOf]; omega
      · have e : j = n_p := by omega
        subst e
        cases u
        · have TK := Fp.ok_law_f L_p.out HU.out U.out.symm
          go_wp2
          go_ret
          exact ⟨rfl, B.out⟩
        · by_cases h2 : k = 2
          · subst h2
            by_cases hs : s = 1
            · have TK := Fp.ok_law_t L_p.out HU.out U.out.symm (.inr (by rw [← S.out]; exact hs))
              subst hs
              go_wp2
              go_ret
              exact ⟨rfl, B.out⟩
            · have TK := Fp.ok_law_n L_p.out HU.out U.out.symm (by rw [← S.out]; exact hs)
              have sb := beqF hs
              clear hs
              go_wp2
              go_ret
              exact ⟨rfl, B.out⟩
          · have TK := Fp.ok_law_t L_p.out HU.out U.out.symm (.inl h2)
            have kb : (k != 2) = true := by rw [bne, beqF h2]; rfl
            clear h2
            go_wp2
            go_ret
            exact ⟨rfl, B.out⟩
  · skip
    have tp : 0 < Fp.tlen k := Fp.tlen_pos hk
    go_wp2_with fail
    refine (impl_TypeLen _ _).mono ?_
    rintro e W4 hd
    obtain ⟨rfl, b_d⟩ := hd.below
    have Z_W4 : W3.heap.size ≤ W4.heap.size := b_d.size
    clear hd
    replace O_p := Lib.hid (O_p.out.below b_d)
    replace B := Lib.hid (B.out.trans (b_d.mono B.out.size))
    clear b_d
    by_cases hn : n_p = Fp.tlen k
    · have HU : Hid (true = (Fp.tk k && decide (n_p = Fp.tlen k))) := by show _ = _; rw [hk, decide_eq_true hn]; rfl
      have nb : ((n_p : Int) == ((Fp.tlen k : Nat) : Int)) = true := beqT (by omega)
      clear hn hk
      go_wp2
      go_loop [6, 7, 8] (fun c t i => ∃ (j : Nat) (u : Bool) (s : Int), j ≤ n_p ∧ Hid (u = Fp.cb zs true j) ∧ Hid (s = Fp.ss zs j) ∧ c = .bool u ∧ t = .int .i64 s ∧ i = .int .i64 j) (fun _ _ i => n_p - (intOf i).toNat)
      case atStart => exact ⟨0, true, 0, by omega, rfl, rfl, rfl, rfl, rfl⟩
      case round =>
        obtain ⟨j, u, s, hj, U, S, rfl, rfl, rfl⟩ := hrel
        have sb := Fp.ss_bd zs j
        rw [← S.out] at sb
        obtain ⟨s0, s1⟩ := sb
        by_cases hlt : j < n_p
        · obtain ⟨b, off, z, rfl, hcz, hz⟩ := O_p.out.sl.get hlt
          have hz3 : z ≤ 0 ∨ (0 < z ∧ z < 9) ∨ 9 ≤ z := by omega
          have hz5 : z = 0 ∨ z = 1 ∨ (z ≠ 0 ∧ z ≠ 1) := by omega
          cases u
          · clear hz5
            rcases hz3 with h3 | ⟨h3, h4⟩ | h3
            · skip
              have d1 : decide (0 < z) = false := decide_eq_false (by omega)
              have U2 : Hid (false = Fp.cb zs true (j + 1)) := by show _ = _; rw [Fp.cb, ← U.out, ← hz.out]; rfl
              have S2 : Hid (s = Fp.ss zs (j + 1)) := by show _ = _; rw [Fp.ss, ← S.out, ← hz.out]; rw [if_neg (by omega)]; omega
              go_wp2
              go_round
              case rel => exact ⟨j + 1, false, s, by omega, U2.out, S2.out, rfl, rfl, by go_num⟩
              case measure => simp [intOf]; omega
            · skip
              have d1 : decide (0 < z) = true := decide_eq_true h3
              have d2 : decide (z < 9) = true := decide_eq_true h4
              have U2 : Hid (false = Fp.cb zs true (j + 1)) := by show _ = _; rw [Fp.cb, ← U.out, ← hz.out]; rfl
              have S2 : Hid (s + z = Fp.ss zs (j + 1)) := by show _ = _; rw [Fp.ss, ← S.out, ← hz.out]; rw [if_pos ⟨h3, h4⟩]
              go_wp2
              go_round
              case rel => exact ⟨j + 1, false, s + z, by omega, U2.out, S2.out, rfl, rfl, by go_num⟩
              case measure => simp [intOf]; omega
            · skip
              have d1 : decide (0 < z) = true := decide_eq_true (by omega)
              have d2 : decide (z < 9) = false := decide_eq_false (by omega)
              have U2 : Hid (false = Fp.cb zs true (j + 1)) := by show _ = _; rw [Fp.cb, ← U.out, ← hz.out]; rfl
              have S2 : Hid (s = Fp.ss zs (j + 1)) := by show _ = _; rw [Fp.ss, ← S.out, ← hz.out]; rw [if_neg (by omega)]; omega
              go_wp2
              go_round
              case rel => exact ⟨j + 1, false, s, by omega, U2.out, S2.out, rfl, rfl, by go_num⟩
              case measure => simp [intOf]; omega
          · skip
            rcases hz5 with rfl | rfl | hz5
            · skip
              have U2 : Hid (true = Fp.cb zs true (j + 1)) := by show _ = _; rw [Fp.cb, ← U.out, ← hz.out]; rfl
              have S2 : Hid (s = Fp.ss zs (j + 1)) := by show _ = _; rw [Fp.ss, ← S.out, ← hz.out]; simp
              go_wp2
              go_round
              case rel => exact ⟨j + 1, true, s, by omega, U2.out, S2.out, rfl, rfl, by go_num⟩
              case measure => simp [intOf]; omega
            · skip
              have U2 : Hid (true = Fp.cb zs true (j + 1)) := by show _ = _; rw [Fp.cb, ← U.out, ← hz.out]; rfl
              have S2 : Hid (s + 1 = Fp.ss zs (j + 1)) := by show _ = _; rw [Fp.ss, ← S.out, ← hz.out]; simp
              go_wp2
              go_round
              case rel => exact ⟨j + 1, true, s + 1, by omega, U2.out, S2.out, rfl, rfl, by go_num⟩
              case measure => simp [intOf]; omega
            · have zb0 := beqF hz5.1
              have zb1 := beqF hz5.2
              rcases hz3 with h3 | ⟨h3, h4⟩ | h3
              · skip
                have d1 : decide (0 < z) = false := decide_eq_false (by omega)
                have U2 : Hid (false = Fp.cb zs true (j + 1)) := by show _ = _; rw [Fp.cb, ← U.out, ← hz.out]; rw [zb0, zb1]; rfl
                have S2 : Hid (s = Fp.ss zs (j + 1)) := by show _ = _; rw [Fp.ss, ← S.out, ← hz.out]; rw [if_neg (by omega)]; omega
                go_wp2
                go_round
                case rel => exact ⟨j + 1, false, s, by omega, U2.out, S2.out, rfl, rfl, by go_num⟩
                case measure => simp [intOf]; omega
              · skip
                have d1 : decide (0 < z) = true := decide_eq_true h3
                have d2 : decide (z < 9) = true := decide_eq_true h4
                have U2 : Hid (false = Fp.cb zs true (j + 1)) := by show _ = _; rw [Fp.cb, ← U.out, ← hz.out]; rw [zb0, zb1]; rfl
                have S2 : Hid (s + z = Fp.ss zs (j + 1)) := by show _ = _; rw [Fp.ss, ← S.out, ← hz.out]; rw [if_pos ⟨h3, h4⟩]
                go_wp2
                go_round
                case rel => exact ⟨j + 1, false, s + z, by omega, U2.out, S2.out, rfl, rfl, by go_num⟩
                case measure => simp [intOf]; omega
              · skip
                have d1 : decide (0 < z) = true := decide_eq_true (by omega)
                have d2 : decide (z < 9) = false := decide_eq_false (by omega)
                have U2 : Hid (false = Fp.cb zs true (j + 1)) := by show _ = _; rw [Fp.cb, ← U.out, ← hz.out]; rw [zb0, zb1]; rfl
                have S2 : Hid (s = Fp.ss zs (j + 1)) := by show _ = _; rw [Fp.ss, ← S.out, ← hz.out]; rw [if_neg (by omega)]; omega
                go_wp2
                go_round
                case rel => exact ⟨j + 1, false, s, by omega, U2.out, S2.out, rfl, rfl, by go_num⟩
                case measure => simp [intOf]; omega
        · have e : j = n_p := by omega
          subst e
          cases u
          · have TK := Fp.ok_law_f L_p.out HU.out U.out.symm
            go_wp2
            go_ret
            exact ⟨rfl, B.out⟩
          · by_cases h2 : k = 2
            · subst h2
              by_cases hs : s = 1
              · have TK := Fp.ok_law_t L_p.out HU.out U.out.symm (.inr (by rw [← S.out]; exact hs))
                subst hs
                go_wp2
                go_ret
                exact ⟨rfl, B.out⟩
              · have TK := Fp.ok_law_n L_p.out HU.out U.out.symm (by rw [← S.out]; exact hs)
                have sb := beqF hs
                clear hs
                go_wp2
                go_ret
                exact ⟨rfl, B.out⟩
            · have TK := Fp.ok_law_t L_p.out HU.out U.out.symm (.inl h2)
              have kb : (k != 2) = true := by rw [bne, beqF h2]; rfl
              clear h2
              go_wp2
              go_ret
              exact ⟨rfl, B.out⟩
    · have HU : Hid (false = (Fp.tk k && decide (n_p = Fp.tlen k))) := by show _ = _; rw [decide_eq_false hn]; simp
      have nb : ((n_p : Int) == ((Fp.tlen k : Nat) : Int)) = false := beqF (by omega)
      clear hn hk
      go_wp2
      go_loop [6, 7, 8] (fun c t i => ∃ (j : Nat) (u : Bool) (s : Int), j ≤ n_p ∧ Hid (u = Fp.cb zs false j) ∧ Hid (s = Fp.ss zs j) ∧ c = .bool u ∧ t = .int .i64 s ∧ i = .int .i64 j) (fun _ _ i => n_p - (intOf i).toNat)
      case atStart => exact ⟨0, false, 0, by omega, rfl, rfl, rfl, rfl, rfl⟩
      case round =>
        obtain ⟨j, u, s, hj, U, S, rfl, rfl, rfl⟩ := hrel
        have sb := Fp.ss_bd zs j
        rw [← S.out] at sb
        obtain ⟨s0, s1⟩ := sb
        by_cases hlt : j < n_p
        · obtain ⟨b, off, z, rfl, hcz, hz⟩ := O_p.out.sl.get hlt
          have hz3 : z ≤ 0 ∨ (0 < z ∧ z < 9) ∨ 9 ≤ z := by omega
          have hz5 : z = 0 ∨ z = 1 ∨ (z ≠ 0 ∧ z ≠ 1) := by omega
          cases u
          · clear hz5
            rcases hz3 with h3 | ⟨h3, h4⟩ | h3
            · skip
              have d1 : decide (0 < z) = false := decide_eq_false (by omega)
              have U2 : Hid (false = Fp.cb zs false (j + 1)) := by show _ = _; rw [Fp.cb, ← U.out, ← hz.out]; rfl
              have S2 : Hid (s = Fp.ss zs (j + 1)) := by show _ = _; rw [Fp.ss, ← S.out, ← hz.out]; rw [if_neg (by omega)]; omega
              go_wp2
              go_round
              case rel => exact ⟨j + 1, false, s, by omega, U2.out, S2.out, rfl, rfl, by go_num⟩
              case measure => simp [intOf]; omega
            · skip
              have d1 : decide (0 < z) = true := decide_eq_true h3
              have d2 : decide (z < 9) = true := decide_eq_true h4
              have U2 : Hid (false = Fp.cb zs false (j + 1)) := by show _ = _; rw [Fp.cb, ← U.out, ← hz.out]; rfl
              have S2 : Hid (s + z = Fp.ss zs (j + 1)) := by show _ = _; rw [Fp.ss, ← S.out, ← hz.out]; rw [if_pos ⟨h3, h4⟩]
              go_wp2
              go_round
              case rel => exact ⟨j + 1, false, s + z, by omega, U2.out, S2.out, rfl, rfl, by go_num⟩
              case measure => simp [intOf]; omega
            · skip
              have d1 : decide (0 < z) = true := decide_eq_true (by omega)
              have d2 : decide (z < 9) = false := decide_eq_false (by omega)
              have U2 : Hid (false = Fp.cb zs false (j + 1)) := by show _ = _; rw [Fp.cb, ← U.out, ← hz.out]; rfl
              have S2 : Hid (s = Fp.ss zs (j + 1)) := by show _ = _; rw [Fp.ss, ← S.out, ← hz.out]; rw [if_neg (by omega)]; omega
              go_wp2
              go_round
              case rel => exact ⟨j + 1, false, s, by omega, U2.out, S2.out, rfl, rfl, by go_num⟩
              case measure => simp [intOf]; omega
          · skip
            rcases hz5 with rfl | rfl | hz5
            · skip
              have U2 : Hid (true = Fp.cb zs false (j + 1)) := by show _ = _; rw [Fp.cb, ← U.out, ← hz.out]; rfl
              have S2 : Hid (s = Fp.ss zs (j + 1)) := by show _ = _; rw [Fp.ss, ← S.out, ← hz.out]; simp
              go_wp2
              go_round
              case rel => exact ⟨j + 1, true, s, by omega, U2.out, S2.out, rfl, rfl, by go_num⟩
              case measure => simp [intOf]; omega
            · skip
              have U2 : Hid (true = Fp.cb zs false (j + 1)) := by show _ = _; rw [Fp.cb, ← U.out, ← hz.out]; rfl
              have S2 : Hid (s + 1 = Fp.ss zs (j + 1)) := by show _ = _; rw [Fp.ss, ← S.out, ← hz.out]; simp
              go_wp2
              go_round
              case rel => exact ⟨j + 1, true, s + 1, by omega, U2.out, S2.out, rfl, rfl, by go_num⟩
              case measure => simp [intOf]; omega
            · have zb0 := beqF hz5.1
              have zb1 := beqF hz5.2
              rcases hz3 with h3 | ⟨h3, h4⟩ | h3
              · skip
                have d1 : decide (0 < z) = false := decide_eq_false (by omega)
                have U2 : Hid (false = Fp.cb zs false (j + 1)) := by show _ = _; rw [Fp.cb, ← U.out, ← hz.out]; rw [zb0, zb1]; rfl
                have S2 : Hid (s = Fp.ss zs (j + 1)) := by show _ = _; rw [Fp.ss, ← S.out, ← hz.out]; rw [if_neg (by omega)]; omega
                go_wp2
                go_round
                case rel => exact ⟨j + 1, false, s, by omega, U2.out, S2.out, rfl, rfl, by go_num⟩
                case measure => simp [intOf]; omega
              · skip
                have d1 : decide (0 < z) = true := decide_eq_true h3
                have d2 : decide (z < 9) = true := decide_eq_true h4
                have U2 : Hid (false = Fp.cb zs false (j + 1)) := by show _ = _; rw [Fp.cb, ← U.out, ← hz.out]; rw [zb0, zb1]; rfl
                have S2 : Hid (s + z = Fp.ss zs (j + 1)) := by show _ = _; rw [Fp.ss, ← S.out, ← hz.out]; rw [if_pos ⟨h3, h4⟩]
                go_wp2
                go_round
                case rel => exact ⟨j + 1, false, s + z, by omega, U2.out, S2.out, rfl, rfl, by go_num⟩
                case measure => simp [intOf]; omega
              · skip
                have d1 : decide (0 < z) = true := decide_eq_true (by omega)
                have d2 : decide (z < 9) = false := decide_eq_false (by omega)
                have U2 : Hid (false = Fp.cb zs false (j + 1)) := by show _ = _; rw [Fp.cb, ← U.out, ← hz.out]; rw [zb0, zb1]; rfl
                have S2 : Hid (s = Fp.ss zs (j + 1)) := by show _ = _; rw [Fp.ss, ← S.out, ← hz.out]; rw [if_neg (by omega)]; omega
                go_wp2
                go_round
                case rel => exact ⟨j + 1, false, s, by omega, U2.out, S2.out, rfl, rfl, by go_num⟩
                case measure => simp [intOf]; omega
        · have e : j = n_p := by omega
          subst e
          cases u
          · have TK := Fp.ok_law_f L_p.out HU.out U.out.symm
            go_wp2
            go_ret
            exact ⟨rfl, B.out⟩
          · by_cases h2 : k = 2
            · subst h2
              by_cases hs : s = 1
              · have TK := Fp.ok_law_t L_p.out HU.out U.out.symm (.inr (by rw [← S.out]; exact hs))
                subst hs
                go_wp2
                go_ret
                exact ⟨rfl, B.out⟩
              · have TK := Fp.ok_law_n L_p.out HU.out U.out.symm (by rw [← S.out]; exact hs)
                have sb := beqF hs
                clear hs
                go_wp2
                go_ret
                exact ⟨rfl, B.out⟩
            · have TK := Fp.ok_law_t L_p.out HU.out U.out.symm (.inl h2)
              have kb : (k != 2) = true := by rw [bne, beqF h2]; rfl
              clear h2
              go_wp2
              go_ret
              exact ⟨rfl, B.out⟩

/-! ### THE ROW's STEP: WRITTEN OUT: LEAVE IT -/
set_option maxRecDepth 100000 in
theorem lifted (os : Os) (started : os.Started) (H : Type) (enc : TypeId × Value → H) :
    ReturnsInHanded {} Try.checked os 5 .any (Rows.fnTypeOkSpec.pre6 enc Try.prog Try.f5 Rows.fnTypeOkRow.domain false) (Rows.fnTypeOkSpec.post enc Try.prog Try.f5 false true false false) := by
  refine returnsInHanded_of_change (C := Try.checked) own started (by kernel_rfl) Try.func5
    (ChangeSpec.witness6 (enc := enc) (C := Try.checked) false ⟨#[], #[.slice none 0 0], []⟩ 8 (by kernel_rfl) (by kernel_rfl) (by kernel_rfl) (by kernel_rfl)) ?_
  intro W base args ds gs before hval0 hW hcnd _
  have hval : ∀ (j : Nat) t v, Try.f5.params[j]? = some t → args[j]? = some v → Value.okWide Try.prog W .any base t v := hval0
  have hW' := hW
  obtain ⟨p, q, hA0, hV, rfl, hfz, hnd⟩ := hW
  have hA : DataW.TrodAll enc Try.prog W 0 (fun _ => true) true Try.f5.params.toList args.toList ds p := hA0
  rw [Try.params5] at hA hval
  obtain ⟨v0, vs0, d0, ds0, p0, q0, hargs, rfl, rfl, h0, r0⟩ := trodAll_cons hA
  obtain ⟨rfl, rfl, rfl⟩ := trodAll_nil r0
  obtain rfl : args = #[v0] := by cases args; simp_all
  obtain ⟨rfl, rfl⟩ := trodVars_none hV
  obtain ⟨a0, len0, cap0, rfl⟩ := okWide_slice Try.underlying22 (hval 0 22 v0 rfl rfl)
  have k0 := h0
  have lt0 : ∀ x ∈ p0, x.block < W.heap.size := by obtain ⟨m, hm⟩ := k0; exact DataW.trod_lt m _ _ _ hm
  obtain ⟨z0, w0⟩ : ∃ zs, IsRow .u8 W a0 len0 cap0 zs := by
    obtain ⟨fuel, hf⟩ := h0
    rcases open_ints Try.underlying22 Try.underlying5 (by kernel_rfl) hf with ⟨hcs, _⟩ | ⟨x, l, c, zs, hcs, _, hl, hm, hz, _, hcell, hwz⟩
    · simp [Value.cells] at hcs
      obtain ⟨rfl, rfl, rfl⟩ := hcs
      exact ⟨[], .inl ⟨rfl, rfl, rfl, rfl⟩⟩
    · simp [Value.cells] at hcs
      obtain ⟨rfl, rfl, rfl⟩ := hcs
      exact ⟨zs, .inr ⟨_, rfl, hl, hm, by simpa using hz, hcell, hwz⟩⟩
  clear hA0 hval0
  refine (walk a0 len0 cap0 z0 W w0).mono fun e W' ⟨he, bel⟩ => ?_
  subst he
  exact ⟨_, rfl, _, _, _, [], _, [], hW', trodAll_mk1 (shut_bool Try.underlying4 _), (trodAll_cons_mk (Below.trod laidOut (by kernel_rfl) (of_decide_eq_true (by kernel_rfl)) k0 bel lt0) trodAll_mk0), rfl, bel.frame _, fun h => by cases h⟩

theorem over : Rows.fnTypeOkRow.holds Try.pinned (OpenSpec.ofChange Rows.fnTypeOkSpec) :=
  OpenClaim.holds_of_wide 5 Try.f5 rfl rfl rfl rfl rfl rfl rfl ⟨rfl, rfl, rfl, rfl, rfl⟩ rfl rfl rfl rfl rfl (by kernel_rfl) Try.func5 (by kernel_rfl)
    (of_decide_eq_true (by kernel_rfl)) (by unfold Func.isWrapper; first | (rw [if_pos (by decide +kernel)]; kernel_rfl) | (rw [if_neg (by decide +kernel)]; exact ⟨rfl, rfl⟩))
    (fun os started H enc _ => lifted os started H enc)

/-- ████ THE STATEMENT ████ -/
theorem proved : Rows.FnTypeOkSaid := over
#print axioms proved
end Go.Proofs.Ytlpfogkfjjbklab.fnTypeOk
