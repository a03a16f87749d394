/-
  What two seeds draw together is the sum of both draws, and whatever one seed is, just one of the first 31 others gives each element: the law FnRandBoth returns true for every two codes.
  Conditions: none but the statement's own. Proved: Rows.FnRandBothSaid.
-/
import Derived.Test.YtdodjgafjkjajaaRows
import Derived.WalkKit
import Derived.ProofKit
import Derived.OpenShut
import Derived.ShutString
import Derived.ChangeOld
import Derived.Below
import Derived.Test.YtdodjgafjkjajaaFp
import Derived.Test.YtdodjgafjkjajaaRa
import Derived.Test.YtdodjgafjkjajaaBase
import Derived.Test.YtdodjgafjkjajaaField
import Derived.Test.YtdodjgafjkjajaaDraw
import Derived.Test.YtdodjgafjkjajaaRand
namespace Go.Proofs.Ytdodjgafjkjajaa.fnRandBoth
open Go.ChangeShapes Go.WideShapes Go.ChangeAt Go.RowKit
open Go.ChangeMaps (open_string shut_string)
set_option linter.unusedVariables false
set_option linter.unusedSimpArgs false

theorem own : ownKnob Try.prog.godebug = none := by kernel_rfl
theorem laidOut : laidOutB Try.prog = true := by kernel_rfl

set_option maxHeartbeats 1000000 in
set_option maxRecDepth 100000 in
theorem walk (a0 : Option Addr) (len0 cap0 : Nat) (z0 : List Int) (a1 : Option Addr) (len1 cap1 : Nat) (z1 : List Int) (w : World) (w0 : IsRow .u8 w a0 len0 cap0 z0) (w1 : IsRow .u8 w a1 len1 cap1 z1) :
    Calls Try.prog 5 #[.slice a0 len0 cap0, .slice a1 len1 cap1] w fun e w' => e = .returned (.bool true) ∧ Below w.heap.size w w' := by
  obtain ⟨c1, c2⟩ := w0.sizes
  obtain ⟨d1, d2⟩ := w1.sizes
  have Hb := Lib.hid (Bys.of_row w0)
  clear w0 w1
  by_cases hl : 1048576 < len0
  · go_enter Try.func5, Try.ntmps5
    go_wp2
    go_ret
    exact ⟨rfl, Below.refl _ _⟩
  by_cases hl1 : 1048576 < len1
  · go_enter Try.func5, Try.ntmps5
    go_wp2
    go_ret
    exact ⟨rfl, Below.refl _ _⟩
  · go_enter Try.func5, Try.ntmps5
    go_wp2_with fail
    refine (spec_DrawRandBoth a0 len0 cap0 w Hb.out c1 c2).mono ?_
    rintro e W1 ⟨x, z, y, x1, x2, z1, z2, y1, y2, rfl, b1⟩
    have B1 := Lib.hid b1
    clear b1 c1 c2
    by_cases hx0 : x < 0
    · go_wp2_with (first | (go_at_call 19; (with_reducible refine (impl_RandBoth _ _ _ _).mono ?_); rintro e w' ⟨rfl, rfl⟩) | (go_at_call 20; (with_reducible refine (spec_RandBoth _ _ _ _).mono ?_); rintro e w' ⟨rfl, rfl⟩))
      go_ret
      exact ⟨rfl, B1.out⟩
    by_cases hx1 : 999 < x
    · go_wp2_with (first | (go_at_call 19; (with_reducible refine (impl_RandBoth _ _ _ _).mono ?_); rintro e w' ⟨rfl, rfl⟩) | (go_at_call 20; (with_reducible refine (spec_RandBoth _ _ _ _).mono ?_); rintro e w' ⟨rfl, rfl⟩))
      go_ret
      exact ⟨rfl, B1.out⟩
    by_cases hz0 : z < 0
    · go_wp2_with (first | (go_at_call 19; (with_reducible refine (impl_RandBoth _ _ _ _).mono ?_); rintro e w' ⟨rfl, rfl⟩) | (go_at_call 20; (with_reducible refine (spec_RandBoth _ _ _ _).mono ?_); rintro e w' ⟨rfl, rfl⟩))
      go_ret
      exact ⟨rfl, B1.out⟩
    by_cases hz1 : 999 < z
    · go_wp2_with (first | (go_at_call 19; (with_reducible refine (impl_RandBoth _ _ _ _).mono ?_); rintro e w' ⟨rfl, rfl⟩) | (go_at_call 20; (with_reducible refine (spec_RandBoth _ _ _ _).mono ?_); rintro e w' ⟨rfl, rfl⟩))
      go_ret
      exact ⟨rfl, B1.out⟩
    by_cases hy0 : y < 0
    · go_wp2_with (first | (go_at_call 19; (with_reducible refine (impl_RandBoth _ _ _ _).mono ?_); rintro e w' ⟨rfl, rfl⟩) | (go_at_call 20; (with_reducible refine (spec_RandBoth _ _ _ _).mono ?_); rintro e w' ⟨rfl, rfl⟩))
      go_ret
      exact ⟨rfl, B1.out⟩
    by_cases hy1 : 20 < y
    · go_wp2_with (first | (go_at_call 19; (with_reducible refine (impl_RandBoth _ _ _ _).mono ?_); rintro e w' ⟨rfl, rfl⟩) | (go_at_call 20; (with_reducible refine (spec_RandBoth _ _ _ _).mono ?_); rintro e w' ⟨rfl, rfl⟩))
      go_ret
      exact ⟨rfl, B1.out⟩
    have iy : Fp.iok y = true := (Fp.iok_iff _).2 ⟨by omega, by omega⟩
    have sx : Fp.sok x = true := (Fp.sok_iff _).2 ⟨by omega, by omega⟩
    have sz : Fp.sok z = true := (Fp.sok_iff _).2 ⟨by omega, by omega⟩
    have vo : Fp.ok ((len1 : Int) % 31) = true := (Fp.ok_iff _).2 (by omega)
    have E1 := Lib.hid (Fp.evenl iy (Fp.rnd_ok z y) vo)
    have E2 := Lib.hid (Fp.evenr iy (Fp.rnd_ok x y) vo)
    have IY := Lib.hid iy
    have SX := Lib.hid sx
    have SZ := Lib.hid sz
    clear iy sx sz vo
    go_wp2_with (first | (go_at_call 19; (with_reducible refine (impl_RandBoth _ _ _ _).mono ?_); rintro e w' ⟨rfl, rfl⟩) | (go_at_call 20; (with_reducible refine (spec_RandBoth _ _ _ _).mono ?_); rintro e w' ⟨rfl, rfl⟩) | (go_at_call 21; (with_reducible refine (laws_loNum _ _ (by omega)).mono ?_); rintro e w' ⟨rfl, rfl⟩))
    go_loop [10, 11, 12] (fun m m2 i => ∃ (k c d : Nat), k ≤ 31 ∧ c ≤ k ∧ d ≤ k ∧ Hid (c = Fp.many (fun s => (Fp.rnd (s : Int) y + Fp.rnd z y) % 31 == (len1 : Int) % 31) k) ∧ Hid (d = Fp.many (fun s => (Fp.rnd x y + Fp.rnd (s : Int) y) % 31 == (len1 : Int) % 31) k) ∧ m = .int .i64 (c : Int) ∧ m2 = .int .i64 (d : Int) ∧ i = .int .i64 k) (fun _ _ i => 31 - (intOf i).toNat)
    case atStart => exact ⟨0, 0, 0, by omega, by omega, by omega, rfl, rfl, rfl, rfl, rfl⟩
    case round =>
      obtain ⟨k, c, d, hk, hck, hdk, C, D, rfl, rfl, rfl⟩ := hrel
      by_cases hlt : k < 31
      · have sk : Fp.sok (k : Int) = true := (Fp.sok_iff _).2 ⟨by omega, by omega⟩
        have e1 : Fp.rboth (k : Int) z y = (Fp.rnd (k : Int) y + Fp.rnd z y) % 31 := Fp.rboth_eq sk SZ.out IY.out
        have e2 : Fp.rboth x (k : Int) y = (Fp.rnd x y + Fp.rnd (k : Int) y) % 31 := Fp.rboth_eq SX.out sk IY.out
        clear sk
        obtain ⟨c', hc', cb, C2⟩ : ∃ (c' : Nat), c' ≤ k + 1 ∧ ((Fp.rboth (k : Int) z y == (len1 : Int) % 31) = true ∧ c' = c + 1 ∨ (Fp.rboth (k : Int) z y == (len1 : Int) % 31) = false ∧ c' = c) ∧ Hid (c' = Fp.many (fun s => (Fp.rnd (s : Int) y + Fp.rnd z y) % 31 == (len1 : Int) % 31) (k + 1)) := by
          cases hb : (Fp.rboth (k : Int) z y == (len1 : Int) % 31)
          · exact ⟨c, by omega, .inr ⟨rfl, rfl⟩, by show _ = _; rw [Fp.many_no (by simpa [e1] using hb), ← C.out]⟩
          · exact ⟨c + 1, by omega, .inl ⟨rfl, rfl⟩, by show _ = _; rw [Fp.many_yes (by simpa [e1] using hb), ← C.out]⟩
        obtain ⟨d', hd', db, D2⟩ : ∃ (d' : Nat), d' ≤ k + 1 ∧ ((Fp.rboth x (k : Int) y == (len1 : Int) % 31) = true ∧ d' = d + 1 ∨ (Fp.rboth x (k : Int) y == (len1 : Int) % 31) = false ∧ d' = d) ∧ Hid (d' = Fp.many (fun s => (Fp.rnd x y + Fp.rnd (s : Int) y) % 31 == (len1 : Int) % 31) (k + 1)) := by
          cases hb : (Fp.rboth x (k : Int) y == (len1 : Int) % 31)
          · exact ⟨d, by omega, .inr ⟨rfl, rfl⟩, by show _ = _; rw [Fp.many_no (by simpa [e2] using hb), ← D.out]⟩
          · exact ⟨d + 1, by omega, .inl ⟨rfl, rfl⟩, by show _ = _; rw [Fp.many_yes (by simpa [e2] using hb), ← D.out]⟩
        clear e1 e2 C D
        rcases cb with ⟨cb, rfl⟩ | ⟨cb, rfl⟩ <;> rcases db with ⟨db, rfl⟩ | ⟨db, rfl⟩
        all_goals
          go_wp2_with (first | (go_at_call 19; (with_reducible refine (impl_RandBoth _ _ _ _).mono ?_); rintro e w' ⟨rfl, rfl⟩))
          go_round
          case rel => exact ⟨k + 1, _, _, by omega, hc', hd', C2.out, D2.out, by go_num, by go_num, by go_num⟩
          case measure => simp [intOf]; omega
      · have e : k = 31 := by omega
        subst e
        have e1 : c = 1 := by rw [C.out, E1.out]
        have e2 : d = 1 := by rw [D.out, E2.out]
        subst e1 e2
        have f1 : Fp.rboth x z y = (Fp.rnd x y + Fp.rnd z y) % 31 := Fp.rboth_eq SX.out SZ.out IY.out
        have f2 : Fp.rboth z x y = (Fp.rnd z y + Fp.rnd x y) % 31 := Fp.rboth_eq SZ.out SX.out IY.out
        have f3 : Fp.sum (Fp.rat x y) (Fp.rat z y) = Fp.rboth x z y := by rw [Fp.rat_eq SX.out IY.out, Fp.rat_eq SZ.out IY.out, Fp.sum_eq (Fp.rnd_ok _ _) (Fp.rnd_ok _ _), f1]
        have f4 : Fp.rboth z x y = Fp.rboth x z y := by rw [f1, f2, Int.add_comm]
        clear f1 f2
        have g1 : (Fp.rboth x z y == Fp.sum (Fp.rat x y) (Fp.rat z y)) = true := beqT f3.symm
        have g2 : (Fp.rboth z x y == Fp.rboth x z y) = true := beqT f4
        clear f3 f4
        go_wp2_with (first | (go_at_call 19; (with_reducible refine (impl_RandBoth _ _ _ _).mono ?_); rintro e w' ⟨rfl, rfl⟩) | (go_at_call 14; (with_reducible refine (impl_RandAt _ _ _).mono ?_); rintro e w' ⟨rfl, rfl⟩) | (go_at_call 22; (with_reducible refine (impl_FieldSum _ _ _).mono ?_); rintro e w' ⟨rfl, rfl⟩))
        go_ret
        exact ⟨rfl, B1.out⟩

/-! ### THE ROW's STEP: WRITTEN OUT: LEAVE IT -/
set_option maxRecDepth 100000 in
theorem lifted (os : Os) (started : os.Started) (H : Type) (enc : TypeId × Value → H) :
    ReturnsInHanded {} Try.checked os 5 .any (Rows.fnRandBothSpec.pre6 enc Try.prog Try.f5 Rows.fnRandBothRow.domain false) (Rows.fnRandBothSpec.post enc Try.prog Try.f5 false true false false) := by
  refine returnsInHanded_of_change (C := Try.checked) own started (by kernel_rfl) Try.func5
    (ChangeSpec.witness6 (enc := enc) (C := Try.checked) false ⟨#[], #[.slice none 0 0, .slice none 0 0], []⟩ 8 (by kernel_rfl) (by kernel_rfl) (by kernel_rfl) (by kernel_rfl)) ?_
  intro W base args ds gs before hval0 hW hcnd _
  have hval : ∀ (j : Nat) t v, Try.f5.params[j]? = some t → args[j]? = some v → Value.okWide Try.prog W .any base t v := hval0
  have hW' := hW
  obtain ⟨p, q, hA0, hV, rfl, hfz, hnd⟩ := hW
  have hA : DataW.TrodAll enc Try.prog W 0 (fun _ => true) true Try.f5.params.toList args.toList ds p := hA0
  rw [Try.params5] at hA hval
  obtain ⟨v0, vs0, d0, ds0, p0, q0, hargs, rfl, rfl, h0, r0⟩ := trodAll_cons hA
  obtain ⟨v1, vs1, d1, ds1, p1, q1, rfl, rfl, rfl, h1, r1⟩ := trodAll_cons r0
  obtain ⟨rfl, rfl, rfl⟩ := trodAll_nil r1
  obtain rfl : args = #[v0, v1] := by cases args; simp_all
  obtain ⟨rfl, rfl⟩ := trodVars_none hV
  obtain ⟨a0, len0, cap0, rfl⟩ := okWide_slice Try.underlying22 (hval 0 22 v0 rfl rfl)
  have k0 := h0
  have lt0 : ∀ x ∈ p0, x.block < W.heap.size := by obtain ⟨m, hm⟩ := k0; exact DataW.trod_lt m _ _ _ hm
  obtain ⟨z0, w0⟩ : ∃ zs, IsRow .u8 W a0 len0 cap0 zs := by
    obtain ⟨fuel, hf⟩ := h0
    rcases open_ints Try.underlying22 Try.underlying5 (by kernel_rfl) hf with ⟨hcs, _⟩ | ⟨x, l, c, zs, hcs, _, hl, hm, hz, _, hcell, hwz⟩
    · simp [Value.cells] at hcs
      obtain ⟨rfl, rfl, rfl⟩ := hcs
      exact ⟨[], .inl ⟨rfl, rfl, rfl, rfl⟩⟩
    · simp [Value.cells] at hcs
      obtain ⟨rfl, rfl, rfl⟩ := hcs
      exact ⟨zs, .inr ⟨_, rfl, hl, hm, by simpa using hz, hcell, hwz⟩⟩
  obtain ⟨a1, len1, cap1, rfl⟩ := okWide_slice Try.underlying22 (hval 1 22 v1 rfl rfl)
  have k1 := h1
  have lt1 : ∀ x ∈ p1, x.block < W.heap.size := by obtain ⟨m, hm⟩ := k1; exact DataW.trod_lt m _ _ _ hm
  obtain ⟨z1, w1⟩ : ∃ zs, IsRow .u8 W a1 len1 cap1 zs := by
    obtain ⟨fuel, hf⟩ := h1
    rcases open_ints Try.underlying22 Try.underlying5 (by kernel_rfl) hf with ⟨hcs, _⟩ | ⟨x, l, c, zs, hcs, _, hl, hm, hz, _, hcell, hwz⟩
    · simp [Value.cells] at hcs
      obtain ⟨rfl, rfl, rfl⟩ := hcs
      exact ⟨[], .inl ⟨rfl, rfl, rfl, rfl⟩⟩
    · simp [Value.cells] at hcs
      obtain ⟨rfl, rfl, rfl⟩ := hcs
      exact ⟨zs, .inr ⟨_, rfl, hl, hm, by simpa using hz, hcell, hwz⟩⟩
  clear hA0 hval0
  refine (walk a0 len0 cap0 z0 a1 len1 cap1 z1 W w0 w1).mono fun e W' ⟨he, bel⟩ => ?_
  subst he
  exact ⟨_, rfl, _, _, _, [], _, [], hW', trodAll_mk1 (shut_bool Try.underlying4 _), (trodAll_cons_mk (Below.trod laidOut (by kernel_rfl) (of_decide_eq_true (by kernel_rfl)) k0 bel lt0) (trodAll_cons_mk (Below.trod laidOut (by kernel_rfl) (of_decide_eq_true (by kernel_rfl)) k1 bel lt1) trodAll_mk0)), rfl, bel.frame _, fun h => by cases h⟩

theorem over : Rows.fnRandBothRow.holds Try.pinned (OpenSpec.ofChange Rows.fnRandBothSpec) :=
  OpenClaim.holds_of_wide 5 Try.f5 rfl rfl rfl rfl rfl rfl rfl ⟨rfl, rfl, rfl, rfl, rfl⟩ rfl rfl rfl rfl rfl (by kernel_rfl) Try.func5 (by kernel_rfl)
    (of_decide_eq_true (by kernel_rfl)) (by unfold Func.isWrapper; first | (rw [if_pos (by decide +kernel)]; kernel_rfl) | (rw [if_neg (by decide +kernel)]; exact ⟨rfl, rfl⟩))
    (fun os started H enc _ => lifted os started H enc)

/-- ████ THE STATEMENT ████ -/
theorem proved : Rows.FnRandBothSaid := over
#print axioms proved
end Go.Proofs.Ytdodjgafjkjajaa.fnRandBoth
