/-
  Among the first 31 seeds just one draws each element at an index: the law FnRandEven returns true for every code.
  Conditions: none but the statement's own. Proved: Rows.FnRandEvenSaid.
-/
import Derived.Test.YtdodjgafjkjajaaRows
import Derived.WalkKit
import Derived.ProofKit
import Derived.OpenShut
import Derived.ShutString
import Derived.ChangeOld
import Derived.Below
import Derived.Test.YtdodjgafjkjajaaFp
import Derived.Test.YtdodjgafjkjajaaRa
import Derived.Test.YtdodjgafjkjajaaBase
import Derived.Test.YtdodjgafjkjajaaField
import Derived.Test.YtdodjgafjkjajaaDraw
import Derived.Test.YtdodjgafjkjajaaRand
namespace Go.Proofs.Ytdodjgafjkjajaa.fnRandEven
open Go.ChangeShapes Go.WideShapes Go.ChangeAt Go.RowKit
open Go.ChangeMaps (open_string shut_string)
set_option linter.unusedVariables false
set_option linter.unusedSimpArgs false

theorem own : ownKnob Try.prog.godebug = none := by kernel_rfl
theorem laidOut : laidOutB Try.prog = true := by kernel_rfl

set_option maxHeartbeats 1000000 in
set_option maxRecDepth 100000 in
theorem walk (a0 : Option Addr) (len0 cap0 : Nat) (z0 : List Int) (w : World) (w0 : IsRow .u8 w a0 len0 cap0 z0) :
    Calls Try.prog 4 #[.slice a0 len0 cap0] w fun e w' => e = .returned (.bool true) ∧ Below w.heap.size w w' := by
  obtain ⟨c1, c2⟩ := w0.sizes
  have Hb := Lib.hid (Bys.of_row w0)
  clear w0
  by_cases hl : 1048576 < len0
  · go_enter Try.func4, Try.ntmps4
    go_wp2
    go_ret
    exact ⟨rfl, Below.refl _ _⟩
  · go_enter Try.func4, Try.ntmps4
    go_wp2_with fail
    refine (spec_DrawRandAt a0 len0 cap0 w Hb.out c1 c2).mono ?_
    rintro e W1 ⟨x, y, x1, x2, y1, y2, rfl, b1⟩
    have B1 := Lib.hid b1
    clear b1 c1 c2
    by_cases hx0 : x < 0
    · go_wp2_with (first | (go_at_call 14; (with_reducible refine (impl_RandAt _ _ _).mono ?_); rintro e w' ⟨rfl, rfl⟩) | (go_at_call 17; (with_reducible refine (spec_RandAt _ _ _).mono ?_); rintro e w' ⟨rfl, rfl⟩))
      go_ret
      exact ⟨rfl, B1.out⟩
    by_cases hx1 : 999 < x
    · go_wp2_with (first | (go_at_call 14; (with_reducible refine (impl_RandAt _ _ _).mono ?_); rintro e w' ⟨rfl, rfl⟩) | (go_at_call 17; (with_reducible refine (spec_RandAt _ _ _).mono ?_); rintro e w' ⟨rfl, rfl⟩))
      go_ret
      exact ⟨rfl, B1.out⟩
    by_cases hy0 : y < 0
    · go_wp2_with (first | (go_at_call 14; (with_reducible refine (impl_RandAt _ _ _).mono ?_); rintro e w' ⟨rfl, rfl⟩) | (go_at_call 17; (with_reducible refine (spec_RandAt _ _ _).mono ?_); rintro e w' ⟨rfl, rfl⟩))
      go_ret
      exact ⟨rfl, B1.out⟩
    by_cases hy1 : 20 < y
    · go_wp2_with (first | (go_at_call 14; (with_reducible refine (impl_RandAt _ _ _).mono ?_); rintro e w' ⟨rfl, rfl⟩) | (go_at_call 17; (with_reducible refine (spec_RandAt _ _ _).mono ?_); rintro e w' ⟨rfl, rfl⟩))
      go_ret
      exact ⟨rfl, B1.out⟩
    have iy : Fp.iok y = true := (Fp.iok_iff _).2 ⟨by omega, by omega⟩
    have sx : Fp.sok x = true := (Fp.sok_iff _).2 ⟨by omega, by omega⟩
    have EV := Lib.hid (Fp.even iy (Fp.rat_ok x y))
    have IY := Lib.hid iy
    clear iy sx
    go_wp2_with (first | (go_at_call 14; (with_reducible refine (impl_RandAt _ _ _).mono ?_); rintro e w' ⟨rfl, rfl⟩) | (go_at_call 17; (with_reducible refine (spec_RandAt _ _ _).mono ?_); rintro e w' ⟨rfl, rfl⟩))
    clear x1 x2 y1 y2
    generalize Fp.rat x y = n at EV ⊢
    go_loop [6, 7] (fun m i => ∃ (k : Nat) (c : Nat), k ≤ 31 ∧ c ≤ k ∧ Hid (c = Fp.many (fun s => Fp.rnd (s : Int) y == n) k) ∧ m = .int .i64 (c : Int) ∧ i = .int .i64 k) (fun _ i => 31 - (intOf i).toNat)
    case atStart => exact ⟨0, 0, by omega, by omega, rfl, rfl, rfl⟩
    case round =>
      obtain ⟨k, c, hk, hck, C, rfl, rfl⟩ := hrel
      by_cases hlt : k < 31
      · have e1 : Fp.rat (k : Int) y = Fp.rnd (k : Int) y := Fp.rat_eq ((Fp.sok_iff _).2 ⟨by omega, by omega⟩) IY.out
        by_cases he : Fp.rnd (k : Int) y = n
        · have C2 : Hid (c + 1 = Fp.many (fun s => Fp.rnd (s : Int) y == n) (k + 1)) := by
            show _ = _; rw [Fp.many_yes (by simpa using he), ← C.out]
          have eb : (Fp.rat (k : Int) y == n) = true := beqT (by rw [e1]; exact he)
          clear he e1
          go_wp2_with (first | (go_at_call 14; (with_reducible refine (impl_RandAt _ _ _).mono ?_); rintro e w' ⟨rfl, rfl⟩))
          go_round
          case rel => exact ⟨k + 1, c + 1, by omega, by omega, C2.out, by go_num, by go_num⟩
          case measure => simp [intOf]; omega
        · have C2 : Hid (c = Fp.many (fun s => Fp.rnd (s : Int) y == n) (k + 1)) := by
            show _ = _; rw [Fp.many_no (by simpa using he), ← C.out]
          have eb : (Fp.rat (k : Int) y == n) = false := beqF (by rw [e1]; exact he)
          clear he e1
          go_wp2_with (first | (go_at_call 14; (with_reducible refine (impl_RandAt _ _ _).mono ?_); rintro e w' ⟨rfl, rfl⟩))
          go_round
          case rel => exact ⟨k + 1, c, by omega, by omega, C2.out, rfl, by go_num⟩
          case measure => simp [intOf]; omega
      · have e : k = 31 := by omega
        subst e
        have e1 : c = 1 := by rw [C.out, EV.out]
        subst e1
        go_wp2
        go_ret
        exact ⟨rfl, B1.out⟩

/-! ### THE ROW's STEP: WRITTEN OUT: LEAVE IT -/
set_option maxRecDepth 100000 in
theorem lifted (os : Os) (started : os.Started) (H : Type) (enc : TypeId × Value → H) :
    ReturnsInHanded {} Try.checked os 4 .any (Rows.fnRandEvenSpec.pre6 enc Try.prog Try.f4 Rows.fnRandEvenRow.domain false) (Rows.fnRandEvenSpec.post enc Try.prog Try.f4 false true false false) := by
  refine returnsInHanded_of_change (C := Try.checked) own started (by kernel_rfl) Try.func4
    (ChangeSpec.witness6 (enc := enc) (C := Try.checked) false ⟨#[], #[.slice none 0 0], []⟩ 8 (by kernel_rfl) (by kernel_rfl) (by kernel_rfl) (by kernel_rfl)) ?_
  intro W base args ds gs before hval0 hW hcnd _
  have hval : ∀ (j : Nat) t v, Try.f4.params[j]? = some t → args[j]? = some v → Value.okWide Try.prog W .any base t v := hval0
  have hW' := hW
  obtain ⟨p, q, hA0, hV, rfl, hfz, hnd⟩ := hW
  have hA : DataW.TrodAll enc Try.prog W 0 (fun _ => true) true Try.f4.params.toList args.toList ds p := hA0
  rw [Try.params4] at hA hval
  obtain ⟨v0, vs0, d0, ds0, p0, q0, hargs, rfl, rfl, h0, r0⟩ := trodAll_cons hA
  obtain ⟨rfl, rfl, rfl⟩ := trodAll_nil r0
  obtain rfl : args = #[v0] := by cases args; simp_all
  obtain ⟨rfl, rfl⟩ := trodVars_none hV
  obtain ⟨a0, len0, cap0, rfl⟩ := okWide_slice Try.underlying22 (hval 0 22 v0 rfl rfl)
  have k0 := h0
  have lt0 : ∀ x ∈ p0, x.block < W.heap.size := by obtain ⟨m, hm⟩ := k0; exact DataW.trod_lt m _ _ _ hm
  obtain ⟨z0, w0⟩ : ∃ zs, IsRow .u8 W a0 len0 cap0 zs := by
    obtain ⟨fuel, hf⟩ := h0
    rcases open_ints Try.underlying22 Try.underlying5 (by kernel_rfl) hf with ⟨hcs, _⟩ | ⟨x, l, c, zs, hcs, _, hl, hm, hz, _, hcell, hwz⟩
    · simp [Value.cells] at hcs
      obtain ⟨rfl, rfl, rfl⟩ := hcs
      exact ⟨[], .inl ⟨rfl, rfl, rfl, rfl⟩⟩
    · simp [Value.cells] at hcs
      obtain ⟨rfl, rfl, rfl⟩ := hcs
      exact ⟨zs, .inr ⟨_, rfl, hl, hm, by simpa using hz, hcell, hwz⟩⟩
  clear hA0 hval0
  refine (walk a0 len0 cap0 z0 W w0).mono fun e W' ⟨he, bel⟩ => ?_
  subst he
  exact ⟨_, rfl, _, _, _, [], _, [], hW', trodAll_mk1 (shut_bool Try.underlying4 _), (trodAll_cons_mk (Below.trod laidOut (by kernel_rfl) (of_decide_eq_true (by kernel_rfl)) k0 bel lt0) trodAll_mk0), rfl, bel.frame _, fun h => by cases h⟩

theorem over : Rows.fnRandEvenRow.holds Try.pinned (OpenSpec.ofChange Rows.fnRandEvenSpec) :=
  OpenClaim.holds_of_wide 4 Try.f4 rfl rfl rfl rfl rfl rfl rfl ⟨rfl, rfl, rfl, rfl, rfl⟩ rfl rfl rfl rfl rfl (by kernel_rfl) Try.func4 (by kernel_rfl)
    (of_decide_eq_true (by kernel_rfl)) (by unfold Func.isWrapper; first | (rw [if_pos (by decide +kernel)]; kernel_rfl) | (rw [if_neg (by decide +kernel)]; exact ⟨rfl, rfl⟩))
    (fun os started H enc _ => lifted os started H enc)

/-- ████ THE STATEMENT ████ -/
theorem proved : Rows.FnRandEvenSaid := over
#print axioms proved
end Go.Proofs.Ytdodjgafjkjajaa.fnRandEven
