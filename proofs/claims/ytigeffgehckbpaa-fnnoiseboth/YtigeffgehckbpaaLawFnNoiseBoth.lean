/-
  Noise of two seeds is that of what both draw, and whatever one seed is, it comes as often of the first 31 other seeds as of all elements: the law FnNoiseBoth returns true for every two codes.
  Conditions: none but the statement's own. Proved: Rows.FnNoiseBothSaid.
-/
import Derived.Test.YtigeffgehckbpaaRows
import Derived.WalkKit
import Derived.ProofKit
import Derived.OpenShut
import Derived.ShutString
import Derived.ChangeOld
import Derived.Below
import Derived.Test.YtigeffgehckbpaaFp
import Derived.Test.YtigeffgehckbpaaRa
import Derived.Test.YtigeffgehckbpaaBase
import Derived.Test.YtigeffgehckbpaaField
import Derived.Test.YtigeffgehckbpaaDraw
import Derived.Test.YtigeffgehckbpaaSl
import Derived.Test.YtigeffgehckbpaaLw
import Derived.Test.YtigeffgehckbpaaRand
import Derived.Test.YtigeffgehckbpaaNoz
import Derived.Test.YtigeffgehckbpaaNoi
import Derived.Test.YtigeffgehckbpaaDlist
import Derived.Test.YtigeffgehckbpaaCat
import Derived.Test.YtigeffgehckbpaaNos
namespace Go.Proofs.Ytigeffgehckbpaa.fnNoiseBoth
open Go.ChangeShapes Go.WideShapes Go.ChangeAt Go.RowKit
open Go.ChangeMaps (open_string shut_string)
set_option linter.unusedVariables false
set_option linter.unusedSimpArgs false

theorem own : ownKnob Try.prog.godebug = none := by kernel_rfl
theorem laidOut : laidOutB Try.prog = true := by kernel_rfl

set_option maxHeartbeats 1000000 in
set_option maxRecDepth 100000 in
theorem walk (a0 : Option Addr) (len0 cap0 : Nat) (z0 : List Int) (a1 : Option Addr) (len1 cap1 : Nat) (z1 : List Int) (w : World) (w0 : IsRow .u8 w a0 len0 cap0 z0) (w1 : IsRow .u8 w a1 len1 cap1 z1) :
    Calls Try.prog 9 #[.slice a0 len0 cap0, .slice a1 len1 cap1] w fun e w' => e = .returned (.bool true) ∧ Below w.heap.size w w' := by
  obtain ⟨c1, c2⟩ := w0.sizes
  obtain ⟨d1, d2⟩ := w1.sizes
  have Hb := Lib.hid (Bys.of_row w0)
  clear w0 w1
  by_cases hl : 1048576 < len0
  · go_enter Try.func9, Try.ntmps9
    go_wp2
    go_ret
    exact ⟨rfl, Below.refl _ _⟩
  by_cases hl1 : 1048576 < len1
  · go_enter Try.func9, Try.ntmps9
    go_wp2
    go_ret
    exact ⟨rfl, Below.refl _ _⟩
  have B := Lib.hid (Below.refl w.heap.size w)
  go_enter Try.func9, Try.ntmps9
  go_wp2_with fail
  refine (spec_DrawNoiseBoth a0 len0 cap0 w Hb.out c1 c2).mono ?_
  rintro e W1 ⟨x, z, y, x1, x2, z1, z2, y1, y2, rfl, b_d⟩
  have Z_W1 : w.heap.size ≤ W1.heap.size := b_d.size
  replace B := Lib.hid (B.out.trans (b_d.mono B.out.size))
  clear b_d
  clear c1 c2 Hb d1 d2
  have bs : (Fp.nb x z y == Fp.nb x z y) = true := by simp
  go_wp2_with fail
  refine (impl_NoiseBoth _ _ _ _).mono ?_
  rintro e W2 ⟨rfl, b_d⟩
  have Z_W2 : W1.heap.size ≤ W2.heap.size := b_d.size
  replace B := Lib.hid (B.out.trans (b_d.mono B.out.size))
  clear b_d
  by_cases h0 : x < 0
  · skip
    go_wp2_with fail
    refine (spec_NoiseBoth _ _ _ _).mono ?_
    rintro e w' ⟨rfl, rfl⟩
    go_wp2_with fail
    refine (spec_NoiseBoth _ _ _ _).mono ?_
    rintro e w' ⟨rfl, rfl⟩
    go_wp2
    go_ret
    exact ⟨by first | rfl | simp [bs], B.out⟩
  by_cases h1 : 999 < x
  · skip
    go_wp2_with fail
    refine (spec_NoiseBoth _ _ _ _).mono ?_
    rintro e w' ⟨rfl, rfl⟩
    go_wp2_with fail
    refine (spec_NoiseBoth _ _ _ _).mono ?_
    rintro e w' ⟨rfl, rfl⟩
    go_wp2
    go_ret
    exact ⟨by first | rfl | simp [bs], B.out⟩
  by_cases h2 : z < 0
  · skip
    go_wp2_with fail
    refine (spec_NoiseBoth _ _ _ _).mono ?_
    rintro e w' ⟨rfl, rfl⟩
    go_wp2_with fail
    refine (spec_NoiseBoth _ _ _ _).mono ?_
    rintro e w' ⟨rfl, rfl⟩
    go_wp2
    go_ret
    exact ⟨by first | rfl | simp [bs], B.out⟩
  by_cases h3 : 999 < z
  · skip
    go_wp2_with fail
    refine (spec_NoiseBoth _ _ _ _).mono ?_
    rintro e w' ⟨rfl, rfl⟩
    go_wp2_with fail
    refine (spec_NoiseBoth _ _ _ _).mono ?_
    rintro e w' ⟨rfl, rfl⟩
    go_wp2
    go_ret
    exact ⟨by first | rfl | simp [bs], B.out⟩
  by_cases h4 : y < 0
  · skip
    go_wp2_with fail
    refine (spec_NoiseBoth _ _ _ _).mono ?_
    rintro e w' ⟨rfl, rfl⟩
    go_wp2_with fail
    refine (spec_NoiseBoth _ _ _ _).mono ?_
    rintro e w' ⟨rfl, rfl⟩
    go_wp2
    go_ret
    exact ⟨by first | rfl | simp [bs], B.out⟩
  by_cases h5 : 20 < y
  · skip
    go_wp2_with fail
    refine (spec_NoiseBoth _ _ _ _).mono ?_
    rintro e w' ⟨rfl, rfl⟩
    go_wp2_with fail
    refine (spec_NoiseBoth _ _ _ _).mono ?_
    rintro e w' ⟨rfl, rfl⟩
    go_wp2
    go_ret
    exact ⟨by first | rfl | simp [bs], B.out⟩
  have iy : Fp.iok y = true := (Fp.iok_iff _).2 ⟨by omega, by omega⟩
  have sx : Fp.sok x = true := (Fp.sok_iff _).2 ⟨by omega, by omega⟩
  have sz : Fp.sok z = true := (Fp.sok_iff _).2 ⟨by omega, by omega⟩
  go_wp2_with fail
  refine (spec_NoiseBoth _ _ _ _).mono ?_
  rintro e w' ⟨rfl, rfl⟩
  go_wp2
  have g0 : -2 ≤ (len1 : Int) % 5 - 2 := by omega
  have g1 : (len1 : Int) % 5 - 2 ≤ 2 := by omega
  generalize (len1 : Int) % 5 - 2 = X at g0 g1 ⊢
  have E1 := Lib.hid (Fp.nb_even iy (Fp.rnd_ok z y) g0 g1)
  have E2 : Hid (Fp.many (fun s => Fp.nzE ((Fp.rnd x y + Fp.rnd (s : Int) y) % 31) == X) 31 = Fp.nmany X) := by
    show _ = _
    rw [← Fp.nb_even iy (Fp.rnd_ok x y) g0 g1]
    exact Fp.many_congr fun s _ => by rw [Int.add_comm]
  have IY := Lib.hid iy
  have SX := Lib.hid sx
  have SZ := Lib.hid sz
  clear iy sx sz
  go_loopw [10, 11, 12] (fun m m2 i wr => ∃ (k c d : Nat), k ≤ 31 ∧ c ≤ k ∧ d ≤ k ∧ Hid (c = Fp.many (fun s => Fp.nzE ((Fp.rnd (s : Int) y + Fp.rnd z y) % 31) == X) k) ∧ Hid (d = Fp.many (fun s => Fp.nzE ((Fp.rnd x y + Fp.rnd (s : Int) y) % 31) == X) k) ∧ m = .int .i64 (c : Int) ∧ m2 = .int .i64 (d : Int) ∧ i = .int .i64 k ∧ Hid (Below w.heap.size w wr)) (fun _ _ i _ => 31 - (intOf i).toNat)
  case atStart => exact ⟨0, 0, 0, by omega, by omega, by omega, rfl, rfl, rfl, rfl, rfl, B.out⟩
  case round =>
    clear B
    obtain ⟨k, c, d, hk, hck, hdk, C, D, rfl, rfl, rfl, B⟩ := hrel
    by_cases hlt : k < 31
    · have sk : Fp.sok (k : Int) = true := (Fp.sok_iff _).2 ⟨by omega, by omega⟩
      have e1 : Fp.nb (k : Int) z y = Fp.nzE ((Fp.rnd (k : Int) y + Fp.rnd z y) % 31) := by rw [Fp.nb_E, Fp.rboth_eq sk SZ.out IY.out]
      have e2 : Fp.nb x (k : Int) y = Fp.nzE ((Fp.rnd x y + Fp.rnd (k : Int) y) % 31) := by rw [Fp.nb_E, Fp.rboth_eq SX.out sk IY.out]
      clear sk
      obtain ⟨c', hc', cb, C2⟩ : ∃ (c' : Nat), c' ≤ k + 1 ∧ ((Fp.nb (k : Int) z y == X) = true ∧ c' = c + 1 ∨ (Fp.nb (k : Int) z y == X) = false ∧ c' = c) ∧ Hid (c' = Fp.many (fun s => Fp.nzE ((Fp.rnd (s : Int) y + Fp.rnd z y) % 31) == X) (k + 1)) := by
        cases hb : (Fp.nb (k : Int) z y == X)
        · exact ⟨c, by omega, .inr ⟨rfl, rfl⟩, by show _ = _; rw [Fp.many_no (by simpa [e1] using hb), ← C.out]⟩
        · exact ⟨c + 1, by omega, .inl ⟨rfl, rfl⟩, by show _ = _; rw [Fp.many_yes (by simpa [e1] using hb), ← C.out]⟩
      obtain ⟨d', hd', db, D2⟩ : ∃ (d' : Nat), d' ≤ k + 1 ∧ ((Fp.nb x (k : Int) y == X) = true ∧ d' = d + 1 ∨ (Fp.nb x (k : Int) y == X) = false ∧ d' = d) ∧ Hid (d' = Fp.many (fun s => Fp.nzE ((Fp.rnd x y + Fp.rnd (s : Int) y) % 31) == X) (k + 1)) := by
        cases hb : (Fp.nb x (k : Int) y == X)
        · exact ⟨d, by omega, .inr ⟨rfl, rfl⟩, by show _ = _; rw [Fp.many_no (by simpa [e2] using hb), ← D.out]⟩
        · exact ⟨d + 1, by omega, .inl ⟨rfl, rfl⟩, by show _ = _; rw [Fp.many_yes (by simpa [e2] using hb), ← D.out]⟩
      clear e1 e2 C D
      rcases cb with ⟨cb, rfl⟩ | ⟨cb, rfl⟩ <;> rcases db with ⟨db, rfl⟩ | ⟨db, rfl⟩
      all_goals
        go_wp2_with fail
        refine (impl_NoiseBoth _ _ _ _).mono ?_
        rintro e w5 ⟨rfl, b5⟩
        replace B := Lib.hid (B.out.trans (b5.mono B.out.size))
        clear b5
        go_wp2_with fail
        refine (impl_NoiseBoth _ _ _ _).mono ?_
        rintro e w6 ⟨rfl, b5⟩
        replace B := Lib.hid (B.out.trans (b5.mono B.out.size))
        clear b5
        go_wp2
        go_roundw
        case rel => exact ⟨k + 1, _, _, by omega, hc', hd', C2.out, D2.out, by go_num, by go_num, by go_num, B.out⟩
        case measure => simp [intOf]; omega
    · have e : k = 31 := by omega
      subst e
      have e1 : c = Fp.nmany X := by rw [C.out, E1.out]
      have e2 : d = Fp.nmany X := by rw [D.out, E2.out]
      subst e1 e2
      have f1 : (Fp.nb x z y == Fp.nz (Fp.rboth x z y)) = true := by simp [Fp.nb]
      have f2 : ((Fp.nmany X : Int) == (Fp.nmany X : Int)) = true := by simp
      clear C D
      go_wp2_with (go_at_call 28; (with_reducible refine (impl_RandBoth _ _ _ _).mono ?_); rintro e w' ⟨rfl, rfl⟩)
      refine (impl_NoiseOf _ _).mono ?_
      rintro e w5 ⟨rfl, b5⟩
      replace B := Lib.hid (B.out.trans (b5.mono B.out.size))
      clear b5
      go_wp2_with fail
      refine (impl_NoiseMany _ _).mono ?_
      rintro e w6 ⟨rfl, b5⟩
      replace B := Lib.hid (B.out.trans (b5.mono B.out.size))
      clear b5
      go_wp2
      go_ret
      exact ⟨rfl, B.out⟩

/-! ### THE ROW's STEP: WRITTEN OUT: LEAVE IT -/
set_option maxRecDepth 100000 in
theorem lifted (os : Os) (started : os.Started) (H : Type) (enc : TypeId × Value → H) :
    ReturnsInHanded {} Try.checked os 9 .any (Rows.fnNoiseBothSpec.pre6 enc Try.prog Try.f9 Rows.fnNoiseBothRow.domain false) (Rows.fnNoiseBothSpec.post enc Try.prog Try.f9 false true false false) := by
  refine returnsInHanded_of_change (C := Try.checked) own started (by kernel_rfl) Try.func9
    (ChangeSpec.witness6 (enc := enc) (C := Try.checked) false ⟨#[], #[.slice none 0 0, .slice none 0 0], []⟩ 8 (by kernel_rfl) (by kernel_rfl) (by kernel_rfl) (by kernel_rfl)) ?_
  intro W base args ds gs before hval0 hW hcnd _
  have hval : ∀ (j : Nat) t v, Try.f9.params[j]? = some t → args[j]? = some v → Value.okWide Try.prog W .any base t v := hval0
  have hW' := hW
  obtain ⟨p, q, hA0, hV, rfl, hfz, hnd⟩ := hW
  have hA : DataW.TrodAll enc Try.prog W 0 (fun _ => true) true Try.f9.params.toList args.toList ds p := hA0
  rw [Try.params9] at hA hval
  obtain ⟨v0, vs0, d0, ds0, p0, q0, hargs, rfl, rfl, h0, r0⟩ := trodAll_cons hA
  obtain ⟨v1, vs1, d1, ds1, p1, q1, rfl, rfl, rfl, h1, r1⟩ := trodAll_cons r0
  obtain ⟨rfl, rfl, rfl⟩ := trodAll_nil r1
  obtain rfl : args = #[v0, v1] := by cases args; simp_all
  obtain ⟨rfl, rfl⟩ := trodVars_none hV
  obtain ⟨a0, len0, cap0, rfl⟩ := okWide_slice Try.underlying33 (hval 0 33 v0 rfl rfl)
  have k0 := h0
  have lt0 : ∀ x ∈ p0, x.block < W.heap.size := by obtain ⟨m, hm⟩ := k0; exact DataW.trod_lt m _ _ _ hm
  obtain ⟨z0, w0⟩ : ∃ zs, IsRow .u8 W a0 len0 cap0 zs := by
    obtain ⟨fuel, hf⟩ := h0
    rcases open_ints Try.underlying33 Try.underlying5 (by kernel_rfl) hf with ⟨hcs, _⟩ | ⟨x, l, c, zs, hcs, _, hl, hm, hz, _, hcell, hwz⟩
    · simp [Value.cells] at hcs
      obtain ⟨rfl, rfl, rfl⟩ := hcs
      exact ⟨[], .inl ⟨rfl, rfl, rfl, rfl⟩⟩
    · simp [Value.cells] at hcs
      obtain ⟨rfl, rfl, rfl⟩ := hcs
      exact ⟨zs, .inr ⟨_, rfl, hl, hm, by simpa using hz, hcell, hwz⟩⟩
  obtain ⟨a1, len1, cap1, rfl⟩ := okWide_slice Try.underlying33 (hval 1 33 v1 rfl rfl)
  have k1 := h1
  have lt1 : ∀ x ∈ p1, x.block < W.heap.size := by obtain ⟨m, hm⟩ := k1; exact DataW.trod_lt m _ _ _ hm
  obtain ⟨z1, w1⟩ : ∃ zs, IsRow .u8 W a1 len1 cap1 zs := by
    obtain ⟨fuel, hf⟩ := h1
    rcases open_ints Try.underlying33 Try.underlying5 (by kernel_rfl) hf with ⟨hcs, _⟩ | ⟨x, l, c, zs, hcs, _, hl, hm, hz, _, hcell, hwz⟩
    · simp [Value.cells] at hcs
      obtain ⟨rfl, rfl, rfl⟩ := hcs
      exact ⟨[], .inl ⟨rfl, rfl, rfl, rfl⟩⟩
    · simp [Value.cells] at hcs
      obtain ⟨rfl, rfl, rfl⟩ := hcs
      exact ⟨zs, .inr ⟨_, rfl, hl, hm, by simpa using hz, hcell, hwz⟩⟩
  clear hA0 hval0
  refine (walk a0 len0 cap0 z0 a1 len1 cap1 z1 W w0 w1).mono fun e W' ⟨he, bel⟩ => ?_
  subst he
  exact ⟨_, rfl, _, _, _, [], _, [], hW', trodAll_mk1 (shut_bool Try.underlying4 _), (trodAll_cons_mk (Below.trod laidOut (by kernel_rfl) (of_decide_eq_true (by kernel_rfl)) k0 bel lt0) (trodAll_cons_mk (Below.trod laidOut (by kernel_rfl) (of_decide_eq_true (by kernel_rfl)) k1 bel lt1) trodAll_mk0)), rfl, bel.frame _, fun h => by cases h⟩

theorem over : Rows.fnNoiseBothRow.holds Try.pinned (OpenSpec.ofChange Rows.fnNoiseBothSpec) :=
  OpenClaim.holds_of_wide 9 Try.f9 rfl rfl rfl rfl rfl rfl rfl ⟨rfl, rfl, rfl, rfl, rfl⟩ rfl rfl rfl rfl rfl (by kernel_rfl) Try.func9 (by kernel_rfl)
    (of_decide_eq_true (by kernel_rfl)) (by unfold Func.isWrapper; first | (rw [if_pos (by decide +kernel)]; kernel_rfl) | (rw [if_neg (by decide +kernel)]; exact ⟨rfl, rfl⟩))
    (fun os started H enc _ => lifted os started H enc)

/-- ████ THE STATEMENT ████ -/
theorem proved : Rows.FnNoiseBothSaid := over
#print axioms proved
end Go.Proofs.Ytigeffgehckbpaa.fnNoiseBoth
