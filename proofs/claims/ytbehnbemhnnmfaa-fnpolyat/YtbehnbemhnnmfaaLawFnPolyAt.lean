/-
  A polynomial's value is the sum of its parts, at 0 it is its first number, at 1 the sum of all: the law FnPolyAt returns true for every code.
  Conditions: none but the statement's own. Proved: Rows.FnPolyAtSaid.
-/
import Derived.Test.YtbehnbemhnnmfaaRows
import Derived.WalkKit
import Derived.ProofKit
import Derived.OpenShut
import Derived.ShutString
import Derived.ChangeOld
import Derived.Below
import Derived.Test.YtbehnbemhnnmfaaFp
import Derived.Test.YtbehnbemhnnmfaaBase
import Derived.Test.YtbehnbemhnnmfaaField
import Derived.Test.YtbehnbemhnnmfaaSl
import Derived.Test.YtbehnbemhnnmfaaLw
import Derived.Test.YtbehnbemhnnmfaaPoly
import Derived.Test.YtbehnbemhnnmfaaDraw
import Derived.Test.YtbehnbemhnnmfaaDlist
namespace Go.Proofs.Ytbehnbemhnnmfaa.fnPolyAt
open Go.ChangeShapes Go.WideShapes Go.ChangeAt Go.RowKit
open Go.ChangeMaps (open_string shut_string)
set_option linter.unusedVariables false
set_option linter.unusedSimpArgs false

theorem own : ownKnob Try.prog.godebug = none := by kernel_rfl
theorem laidOut : laidOutB Try.prog = true := by kernel_rfl

theorem horn_zero {zs : List Int} (h : Fp.pok zs = true) : Fp.horn zs 0 = zs.getD 0 0 := by
  cases zs with
  | nil => rfl
  | cons c p =>
    have := (Fp.ok_iff c).1 (((Fp.pok_iff _).1 h).2 c (by simp))
    show (Fp.horn p 0 * 0 + c) % 31 = c
    omega
set_option maxHeartbeats 1000000 in
set_option maxRecDepth 100000 in
theorem walk (a0 : Option Addr) (len0 cap0 : Nat) (z0 : List Int) (w : World) (w0 : IsRow .u8 w a0 len0 cap0 z0) :
    Calls Try.prog 5 #[.slice a0 len0 cap0] w fun e w' => e = .returned (.bool true) ∧ Below w.heap.size w w' := by
  obtain ⟨c1, c2⟩ := w0.sizes
  have Hb := Lib.hid (Bys.of_row w0)
  clear w0
  by_cases hl : 1048576 < len0
  · go_enter Try.func5, Try.ntmps5
    go_wp2
    go_ret
    exact ⟨rfl, Below.refl _ _⟩
  have B := Lib.hid (Below.refl w.heap.size w)
  go_enter Try.func5, Try.ntmps5
  go_wp2_with fail
  refine (spec_DrawPolyAt a0 len0 cap0 w Hb.out c1 c2).mono ?_
  rintro e W1 ⟨a_p, n_p, c_p, zs, x, h_p, x1, x2, rfl, o_p, b_d⟩
  have Z_W1 : w.heap.size ≤ W1.heap.size := b_d.size
  have O_p := Lib.hid o_p
  have L_p := Lib.hid o_p.len
  replace B := Lib.hid (B.out.trans (b_d.mono B.out.size))
  clear b_d o_p
  clear c1 c2
  go_wp2_with fail
  refine (impl_PolyAt _ _ _ _ _ _ O_p.out.sl).mono ?_
  rintro e W2 hd
  obtain ⟨rfl, b_d⟩ := hd.below
  have Z_W2 : W1.heap.size ≤ W2.heap.size := b_d.size
  clear hd
  replace O_p := Lib.hid (O_p.out.below b_d)
  replace B := Lib.hid (B.out.trans (b_d.mono B.out.size))
  clear b_d
  go_wp2_with fail
  refine (spec_PolyAt _ _ _ _ _ _ O_p.out.sl (by omega)).mono ?_
  rintro e w' ⟨rfl, rfl⟩
  cases hp : Fp.pok zs
  · go_wp2_with (first | (go_at_call 15; (with_reducible refine (spec_PolyOk _ _ _ _ _ O_p.out.sl (by omega)).mono ?_); rintro e w' ⟨rfl, rfl⟩) | (go_at_call 19; (with_reducible refine (spec_PolyAt _ _ _ _ _ _ O_p.out.sl (by omega)).mono ?_); rintro e w' ⟨rfl, rfl⟩))
    go_ret
    exact ⟨rfl, B.out⟩
  · cases hx : Fp.ok x
    · go_wp2_with (first | (go_at_call 15; (with_reducible refine (spec_PolyOk _ _ _ _ _ O_p.out.sl (by omega)).mono ?_); rintro e w' ⟨rfl, rfl⟩) | (go_at_call 19; (with_reducible refine (spec_PolyAt _ _ _ _ _ _ O_p.out.sl (by omega)).mono ?_); rintro e w' ⟨rfl, rfl⟩) | (go_at_call 22; (with_reducible refine (spec_FieldOk _ _).mono ?_); rintro e w' ⟨rfl, rfl⟩))
      go_ret
      exact ⟨rfl, B.out⟩
    · have E1 := Lib.hid (Fp.at_eq hp hx)
      have E2 := Lib.hid (Fp.at_eq hp Fp.ok_zero)
      have E3 := Lib.hid (Fp.at_eq hp Fp.ok_one)
      have E4 := Lib.hid (horn_zero hp)
      have G := Lib.hid (Fp.pok_get hp)
      go_wp2_with (first | (go_at_call 15; (with_reducible refine (spec_PolyOk _ _ _ _ _ O_p.out.sl (by omega)).mono ?_); rintro e w' ⟨rfl, rfl⟩) | (go_at_call 22; (with_reducible refine (spec_FieldOk _ _).mono ?_); rintro e w' ⟨rfl, rfl⟩))
      go_loopw [6, 7, 8] (fun s t i wr => ∃ (k : Nat) (y z : Int), k ≤ n_p ∧ Fp.ok y = true ∧ Fp.ok z = true ∧ Hid (y = Fp.horn (zs.drop k) x) ∧ Hid (z = Fp.horn (zs.drop k) 1) ∧ s = .int .i64 y ∧ t = .int .i64 z ∧ i = .int .i64 ((k : Int) - 1) ∧ Hid (Own w.heap.size W1.heap.size wr a_p n_p c_p zs) ∧ Hid (Below w.heap.size w wr)) (fun _ _ i _ => (intOf i + 1).toNat)
      case atStart => exact ⟨n_p, 0, 0, by omega, rfl, rfl, by show _ = _; rw [← L_p.out, List.drop_length]; rfl, by show _ = _; rw [← L_p.out, List.drop_length]; rfl, rfl, rfl, rfl, O_p.out, B.out⟩
      case round =>
        clear O_p B
        obtain ⟨k, y, z, hk, hy, hz, Y, Z, rfl, rfl, rfl, O_p, B⟩ := hrel
        by_cases h1 : 1 ≤ k
        · obtain ⟨j, rfl⟩ : ∃ j, k = j + 1 := ⟨k - 1, by omega⟩
          have e : ((j + 1 : Nat) : Int) - 1 = (j : Int) := by omega
          rw [e]; clear e
          obtain ⟨b, off, c, rfl, hc, C⟩ := O_p.out.sl.get (k := j) (by omega)
          have hco : Fp.ok c = true := by rw [C.out]; exact G.out j
          have Y2 : Hid (Fp.sum (Fp.mul y x) c = Fp.horn (zs.drop j) x) := by show _ = _; rw [Fp.horn_drop (by rw [L_p.out]; omega), ← Y.out, ← C.out, Fp.sum_eq (Fp.mul_ok _ _) hco, Fp.mul_eq hy hx]; omega
          have Z2 : Hid (Fp.sum z c = Fp.horn (zs.drop j) 1) := by show _ = _; rw [Fp.horn_drop (by rw [L_p.out]; omega), ← Z.out, ← C.out, Fp.sum_eq hz hco, Int.mul_one]
          go_wp2
          go_quiet (first | (go_at_call 24; exact Calls.quiet_of_same (quiet_l (impl_FieldMul _ _ _))) | (go_at_call 23; exact Calls.quiet_of_same (quiet_l (impl_FieldSum _ _ _))))
          go_wp2_with (go_at_call 23; (with_reducible refine (impl_FieldSum _ _ _).mono ?_); rintro e w' ⟨rfl, rfl⟩)
          go_roundw
          case rel => exact ⟨j, _, _, by omega, Fp.sum_ok _ _, Fp.sum_ok _ _, Y2.out, Z2.out, rfl, rfl, rfl, O_p.out.drewN nq, below_drewN B.out nq⟩
          case measure => simp [intOf]
        · have k0 : k = 0 := by omega
          subst k0
          have e0 : ((0 : Nat) : Int) - 1 = -1 := rfl
          rw [e0]; clear e0
          have e1 : (Fp.at_ zs x == y) = true := beqT (by rw [E1.out, Y.out]; rfl)
          have e2 : (Fp.at_ zs 1 == z) = true := beqT (by rw [E3.out, Z.out]; rfl)
          by_cases n0 : n_p = 0
          · subst n0
            have e3 : (Fp.at_ zs 0 == 0) = true := beqT (by rw [E2.out, E4.out, List.eq_nil_of_length_eq_zero L_p.out]; rfl)
            go_wp2_with fail
            refine (impl_PolyAt _ _ _ _ _ _ O_p.out.sl).mono ?_
            rintro e W3 hd
            obtain ⟨rfl, b_d⟩ := hd.below
            have Z_W3 : wr.heap.size ≤ W3.heap.size := b_d.size
            clear hd
            replace O_p := Lib.hid (O_p.out.below b_d)
            replace B := Lib.hid (B.out.trans (b_d.mono B.out.size))
            clear b_d
            go_wp2_with fail
            refine (impl_PolyAt _ _ _ _ _ _ O_p.out.sl).mono ?_
            rintro e W4 hd
            obtain ⟨rfl, b_d⟩ := hd.below
            have Z_W4 : W3.heap.size ≤ W4.heap.size := b_d.size
            clear hd
            replace O_p := Lib.hid (O_p.out.below b_d)
            replace B := Lib.hid (B.out.trans (b_d.mono B.out.size))
            clear b_d
            go_wp2
            go_ret
            exact ⟨rfl, B.out⟩
          · have nd : 0 < n_p := by omega
            obtain ⟨b, off, c, rfl, hc, C⟩ := O_p.out.sl.get nd
            have e3 : (Fp.at_ zs 0 == c) = true := beqT (by rw [E2.out, E4.out, C.out])
            rw [Nat.add_zero] at hc
            go_wp2_with fail
            refine (impl_PolyAt _ _ _ _ _ _ O_p.out.sl).mono ?_
            rintro e W5 hd
            obtain ⟨rfl, b_d⟩ := hd.below
            have Z_W5 : wr.heap.size ≤ W5.heap.size := b_d.size
            clear hd
            replace O_p := Lib.hid (O_p.out.below b_d)
            replace B := Lib.hid (B.out.trans (b_d.mono B.out.size))
            clear b_d
            go_wp2_with fail
            refine (impl_PolyAt _ _ _ _ _ _ O_p.out.sl).mono ?_
            rintro e W6 hd
            obtain ⟨rfl, b_d⟩ := hd.below
            have Z_W6 : W5.heap.size ≤ W6.heap.size := b_d.size
            clear hd
            replace O_p := Lib.hid (O_p.out.below b_d)
            replace B := Lib.hid (B.out.trans (b_d.mono B.out.size))
            clear b_d
            go_wp2
            go_ret
            exact ⟨rfl, B.out⟩

/-! ### THE ROW's STEP: WRITTEN OUT: LEAVE IT -/
set_option maxRecDepth 100000 in
theorem lifted (os : Os) (started : os.Started) (H : Type) (enc : TypeId × Value → H) :
    ReturnsInHanded {} Try.checked os 5 .any (Rows.fnPolyAtSpec.pre6 enc Try.prog Try.f5 Rows.fnPolyAtRow.domain false) (Rows.fnPolyAtSpec.post enc Try.prog Try.f5 false true false false) := by
  refine returnsInHanded_of_change (C := Try.checked) own started (by kernel_rfl) Try.func5
    (ChangeSpec.witness6 (enc := enc) (C := Try.checked) false ⟨#[], #[.slice none 0 0], []⟩ 8 (by kernel_rfl) (by kernel_rfl) (by kernel_rfl) (by kernel_rfl)) ?_
  intro W base args ds gs before hval0 hW hcnd _
  have hval : ∀ (j : Nat) t v, Try.f5.params[j]? = some t → args[j]? = some v → Value.okWide Try.prog W .any base t v := hval0
  have hW' := hW
  obtain ⟨p, q, hA0, hV, rfl, hfz, hnd⟩ := hW
  have hA : DataW.TrodAll enc Try.prog W 0 (fun _ => true) true Try.f5.params.toList args.toList ds p := hA0
  rw [Try.params5] at hA hval
  obtain ⟨v0, vs0, d0, ds0, p0, q0, hargs, rfl, rfl, h0, r0⟩ := trodAll_cons hA
  obtain ⟨rfl, rfl, rfl⟩ := trodAll_nil r0
  obtain rfl : args = #[v0] := by cases args; simp_all
  obtain ⟨rfl, rfl⟩ := trodVars_none hV
  obtain ⟨a0, len0, cap0, rfl⟩ := okWide_slice Try.underlying28 (hval 0 28 v0 rfl rfl)
  have k0 := h0
  have lt0 : ∀ x ∈ p0, x.block < W.heap.size := by obtain ⟨m, hm⟩ := k0; exact DataW.trod_lt m _ _ _ hm
  obtain ⟨z0, w0⟩ : ∃ zs, IsRow .u8 W a0 len0 cap0 zs := by
    obtain ⟨fuel, hf⟩ := h0
    rcases open_ints Try.underlying28 Try.underlying5 (by kernel_rfl) hf with ⟨hcs, _⟩ | ⟨x, l, c, zs, hcs, _, hl, hm, hz, _, hcell, hwz⟩
    · simp [Value.cells] at hcs
      obtain ⟨rfl, rfl, rfl⟩ := hcs
      exact ⟨[], .inl ⟨rfl, rfl, rfl, rfl⟩⟩
    · simp [Value.cells] at hcs
      obtain ⟨rfl, rfl, rfl⟩ := hcs
      exact ⟨zs, .inr ⟨_, rfl, hl, hm, by simpa using hz, hcell, hwz⟩⟩
  clear hA0 hval0
  refine (walk a0 len0 cap0 z0 W w0).mono fun e W' ⟨he, bel⟩ => ?_
  subst he
  exact ⟨_, rfl, _, _, _, [], _, [], hW', trodAll_mk1 (shut_bool Try.underlying4 _), (trodAll_cons_mk (Below.trod laidOut (by kernel_rfl) (of_decide_eq_true (by kernel_rfl)) k0 bel lt0) trodAll_mk0), rfl, bel.frame _, fun h => by cases h⟩

theorem over : Rows.fnPolyAtRow.holds Try.pinned (OpenSpec.ofChange Rows.fnPolyAtSpec) :=
  OpenClaim.holds_of_wide 5 Try.f5 rfl rfl rfl rfl rfl rfl rfl ⟨rfl, rfl, rfl, rfl, rfl⟩ rfl rfl rfl rfl rfl (by kernel_rfl) Try.func5 (by kernel_rfl)
    (of_decide_eq_true (by kernel_rfl)) (by unfold Func.isWrapper; first | (rw [if_pos (by decide +kernel)]; kernel_rfl) | (rw [if_neg (by decide +kernel)]; exact ⟨rfl, rfl⟩))
    (fun os started H enc _ => lifted os started H enc)

/-- ████ THE STATEMENT ████ -/
theorem proved : Rows.FnPolyAtSaid := over
#print axioms proved
end Go.Proofs.Ytbehnbemhnnmfaa.fnPolyAt
