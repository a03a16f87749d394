/-
  The program's QueryDecide answers as the model's for every two arguments, and writes into none: the law FnExactQueryDecide returns true.
  Conditions: none but the statement's own. Proved: Rows.FnExactQueryDecideSaid.
-/
import Derived.Test.YtmaapekmndjgiaaRows
import Derived.WalkKit
import Derived.ProofKit
import Derived.OpenShut
import Derived.ShutString
import Derived.ChangeOld
import Derived.Below
import Derived.Test.YtmaapekmndjgiaaFp
import Derived.Test.YtmaapekmndjgiaaBase
import Derived.Test.YtmaapekmndjgiaaField
import Derived.Test.YtmaapekmndjgiaaSl
import Derived.Test.YtmaapekmndjgiaaLw
import Derived.Test.YtmaapekmndjgiaaPm
import Derived.Test.YtmaapekmndjgiaaShok
import Derived.Test.YtmaapekmndjgiaaShno
import Derived.Test.YtmaapekmndjgiaaCat
import Derived.Test.YtmaapekmndjgiaaShs
import Derived.Test.YtmaapekmndjgiaaQd
namespace Go.Proofs.Ytmaapekmndjgiaa.fnExactQueryDecide
open Go.ChangeShapes Go.WideShapes Go.ChangeAt Go.RowKit
open Go.ChangeMaps (open_string shut_string)
set_option linter.unusedVariables false
set_option linter.unusedSimpArgs false

theorem own : ownKnob Try.prog.godebug = none := by kernel_rfl
theorem laidOut : laidOutB Try.prog = true := by kernel_rfl

set_option maxHeartbeats 1000000 in
set_option maxRecDepth 100000 in
theorem walk (a0 : Option Addr) (len0 cap0 : Nat) (z0 : List Int) (a1 : Option Addr) (len1 cap1 : Nat) (z1 : List Int) (w : World) (w0 : IsRow .i64 w a0 len0 cap0 z0) (w1 : IsRow .i64 w a1 len1 cap1 z1) :
    Calls Try.prog 3 #[.slice a0 len0 cap0, .slice a1 len1 cap1] w fun e w' => e = .returned (.bool true) ∧ Below w.heap.size w w' := by
  by_cases hl : 1048576 < len0
  · go_enter Try.func3, Try.ntmps3
    go_wp2
    go_ret
    exact ⟨rfl, Below.refl _ _⟩
  by_cases hl' : 1048576 < len1
  · go_enter Try.func3, Try.ntmps3
    go_wp2
    go_ret
    exact ⟨rfl, Below.refl _ _⟩
  have S0 := Lib.hid (Sl.of_row w0)
  have L0 := Lib.hid S0.out.len
  have S1 := Lib.hid (Sl.of_row w1)
  have L1 := Lib.hid S1.out.len
  clear w0 w1
  generalize List.take len0 z0 = xs at S0 L0
  generalize List.take len1 z1 = ys at S1 L1
  have e1 := eqB_self xs
  have e2 := eqB_self ys
  have m1 : (Fp.qdec xs ys != Fp.qdec xs ys) = false := by simp
  have B := Lib.hid (Below.refl w.heap.size w)
  go_enter Try.func3, Try.ntmps3
  go_wp2_with fail
  refine (laws_toIntS _ _ _ _ _ S0.out (by omega)).mono ?_
  rintro e W1 ⟨a_p, n_p, c_p, rfl, o_p, b_p⟩
  have O_p := Lib.hid o_p
  have L_p := Lib.hid o_p.len
  have Z_W1 : w.heap.size ≤ W1.heap.size := b_p.size
  replace B := Lib.hid (B.out.trans (b_p.mono B.out.size))
  clear o_p b_p
  have h_p : n_p ≤ 1048576 := by rw [← L_p.out, L0.out]; omega
  go_wp2_with fail
  refine (laws_toIntS _ _ _ _ _ (S1.out.below B.out) (by omega)).mono ?_
  rintro e W2 ⟨a_q, n_q, c_q, rfl, o_q, b_q⟩
  have O_q := Lib.hid o_q
  have L_q := Lib.hid o_q.len
  have Z_W2 : W1.heap.size ≤ W2.heap.size := b_q.size
  replace O_p := Lib.hid (O_p.out.below b_q)
  replace B := Lib.hid (B.out.trans (b_q.mono B.out.size))
  clear o_q b_q
  have h_q : n_q ≤ 1048576 := by rw [← L_q.out, L1.out]; omega
  go_wp2_with fail
  refine (spec_QueryDecide _ _ _ _ _ _ _ _ _ O_p.out.sl O_q.out.sl h_p h_q).mono ?_
  rintro e W3 ⟨rfl, b_d⟩
  have Z_W3 : W2.heap.size ≤ W3.heap.size := b_d.size
  replace O_p := Lib.hid (O_p.out.below b_d)
  replace O_q := Lib.hid (O_q.out.below b_d)
  replace B := Lib.hid (B.out.trans (b_d.mono B.out.size))
  clear b_d
  clear O_p O_q
  go_wp2_with fail
  refine (laws_toIntS _ _ _ _ _ (S0.out.below B.out) (by omega)).mono ?_
  rintro e W4 ⟨a_x, n_x, c_x, rfl, o_x, b_x⟩
  have O_x := Lib.hid o_x
  have L_x := Lib.hid o_x.len
  have Z_W4 : W3.heap.size ≤ W4.heap.size := b_x.size
  replace B := Lib.hid (B.out.trans (b_x.mono B.out.size))
  clear o_x b_x
  have h_x : n_x ≤ 1048576 := by rw [← L_x.out, L0.out]; omega
  go_wp2_with fail
  refine (laws_toIntS _ _ _ _ _ (S1.out.below B.out) (by omega)).mono ?_
  rintro e W5 ⟨a_y, n_y, c_y, rfl, o_y, b_y⟩
  have O_y := Lib.hid o_y
  have L_y := Lib.hid o_y.len
  have Z_W5 : W4.heap.size ≤ W5.heap.size := b_y.size
  replace O_x := Lib.hid (O_x.out.below b_y)
  replace B := Lib.hid (B.out.trans (b_y.mono B.out.size))
  clear o_y b_y
  have h_y : n_y ≤ 1048576 := by rw [← L_y.out, L1.out]; omega
  go_wp2_with fail
  refine (impl_QueryDecide _ _ _ _ _ _ _ _ _ O_x.out.sl O_y.out.sl).mono ?_
  rintro e W6 ⟨rfl, b_d⟩
  have Z_W6 : W5.heap.size ≤ W6.heap.size := b_d.size
  replace O_x := Lib.hid (O_x.out.below b_d)
  replace O_y := Lib.hid (O_y.out.below b_d)
  replace B := Lib.hid (B.out.trans (b_d.mono B.out.size))
  clear b_d
  go_wp2_with fail
  refine (laws_toIntS _ _ _ _ _ (S0.out.below B.out) (by omega)).mono ?_
  rintro e W7 ⟨a_s, n_s, c_s, rfl, o_s, b_s⟩
  have O_s := Lib.hid o_s
  have L_s := Lib.hid o_s.len
  have Z_W7 : W6.heap.size ≤ W7.heap.size := b_s.size
  replace O_x := Lib.hid (O_x.out.below b_s)
  replace O_y := Lib.hid (O_y.out.below b_s)
  replace B := Lib.hid (B.out.trans (b_s.mono B.out.size))
  clear o_s b_s
  have h_s : n_s ≤ 1048576 := by rw [← L_s.out, L0.out]; omega
  go_wp2_with fail
  refine (laws_eqIntS _ _ _ _ _ _ _ _ _ O_x.out.sl O_s.out.sl (by omega) (by omega)).mono ?_
  rintro e W8 hd
  obtain ⟨rfl, b_d⟩ := hd.below
  have Z_W8 : W7.heap.size ≤ W8.heap.size := b_d.size
  clear hd
  replace O_x := Lib.hid (O_x.out.below b_d)
  replace O_y := Lib.hid (O_y.out.below b_d)
  replace O_s := Lib.hid (O_s.out.below b_d)
  replace B := Lib.hid (B.out.trans (b_d.mono B.out.size))
  clear b_d
  go_wp2_with fail
  refine (laws_toIntS _ _ _ _ _ (S1.out.below B.out) (by omega)).mono ?_
  rintro e W9 ⟨a_t, n_t, c_t, rfl, o_t, b_t⟩
  have O_t := Lib.hid o_t
  have L_t := Lib.hid o_t.len
  have Z_W9 : W8.heap.size ≤ W9.heap.size := b_t.size
  replace O_x := Lib.hid (O_x.out.below b_t)
  replace O_y := Lib.hid (O_y.out.below b_t)
  replace O_s := Lib.hid (O_s.out.below b_t)
  replace B := Lib.hid (B.out.trans (b_t.mono B.out.size))
  clear o_t b_t
  have h_t : n_t ≤ 1048576 := by rw [← L_t.out, L1.out]; omega
  go_wp2_with fail
  refine (laws_eqIntS _ _ _ _ _ _ _ _ _ O_y.out.sl O_t.out.sl (by omega) (by omega)).mono ?_
  rintro e W10 hd
  obtain ⟨rfl, b_d⟩ := hd.below
  have Z_W10 : W9.heap.size ≤ W10.heap.size := b_d.size
  clear hd
  replace O_x := Lib.hid (O_x.out.below b_d)
  replace O_y := Lib.hid (O_y.out.below b_d)
  replace O_s := Lib.hid (O_s.out.below b_d)
  replace O_t := Lib.hid (O_t.out.below b_d)
  replace B := Lib.hid (B.out.trans (b_d.mono B.out.size))
  clear b_d
  go_wp2
  go_ret
  exact ⟨rfl, B.out⟩

/-! ### THE ROW's STEP: WRITTEN OUT: LEAVE IT -/
set_option maxRecDepth 100000 in
theorem lifted (os : Os) (started : os.Started) (H : Type) (enc : TypeId × Value → H) :
    ReturnsInHanded {} Try.checked os 3 .any (Rows.fnExactQueryDecideSpec.pre6 enc Try.prog Try.f3 Rows.fnExactQueryDecideRow.domain false) (Rows.fnExactQueryDecideSpec.post enc Try.prog Try.f3 false true false false) := by
  refine returnsInHanded_of_change (C := Try.checked) own started (by kernel_rfl) Try.func3
    (ChangeSpec.witness6 (enc := enc) (C := Try.checked) false ⟨#[], #[.slice none 0 0, .slice none 0 0], []⟩ 8 (by kernel_rfl) (by kernel_rfl) (by kernel_rfl) (by kernel_rfl)) ?_
  intro W base args ds gs before hval0 hW hcnd _
  have hval : ∀ (j : Nat) t v, Try.f3.params[j]? = some t → args[j]? = some v → Value.okWide Try.prog W .any base t v := hval0
  have hW' := hW
  obtain ⟨p, q, hA0, hV, rfl, hfz, hnd⟩ := hW
  have hA : DataW.TrodAll enc Try.prog W 0 (fun _ => true) true Try.f3.params.toList args.toList ds p := hA0
  rw [Try.params3] at hA hval
  obtain ⟨v0, vs0, d0, ds0, p0, q0, hargs, rfl, rfl, h0, r0⟩ := trodAll_cons hA
  obtain ⟨v1, vs1, d1, ds1, p1, q1, rfl, rfl, rfl, h1, r1⟩ := trodAll_cons r0
  obtain ⟨rfl, rfl, rfl⟩ := trodAll_nil r1
  obtain rfl : args = #[v0, v1] := by cases args; simp_all
  obtain ⟨rfl, rfl⟩ := trodVars_none hV
  obtain ⟨a0, len0, cap0, rfl⟩ := okWide_slice Try.underlying22 (hval 0 22 v0 rfl rfl)
  have k0 := h0
  have lt0 : ∀ x ∈ p0, x.block < W.heap.size := by obtain ⟨m, hm⟩ := k0; exact DataW.trod_lt m _ _ _ hm
  obtain ⟨z0, w0⟩ : ∃ zs, IsRow .i64 W a0 len0 cap0 zs := by
    obtain ⟨fuel, hf⟩ := h0
    rcases open_ints Try.underlying22 Try.underlying3 (by kernel_rfl) hf with ⟨hcs, _⟩ | ⟨x, l, c, zs, hcs, _, hl, hm, hz, _, hcell, hwz⟩
    · simp [Value.cells] at hcs
      obtain ⟨rfl, rfl, rfl⟩ := hcs
      exact ⟨[], .inl ⟨rfl, rfl, rfl, rfl⟩⟩
    · simp [Value.cells] at hcs
      obtain ⟨rfl, rfl, rfl⟩ := hcs
      exact ⟨zs, .inr ⟨_, rfl, hl, hm, by simpa using hz, hcell, hwz⟩⟩
  obtain ⟨a1, len1, cap1, rfl⟩ := okWide_slice Try.underlying22 (hval 1 22 v1 rfl rfl)
  have k1 := h1
  have lt1 : ∀ x ∈ p1, x.block < W.heap.size := by obtain ⟨m, hm⟩ := k1; exact DataW.trod_lt m _ _ _ hm
  obtain ⟨z1, w1⟩ : ∃ zs, IsRow .i64 W a1 len1 cap1 zs := by
    obtain ⟨fuel, hf⟩ := h1
    rcases open_ints Try.underlying22 Try.underlying3 (by kernel_rfl) hf with ⟨hcs, _⟩ | ⟨x, l, c, zs, hcs, _, hl, hm, hz, _, hcell, hwz⟩
    · simp [Value.cells] at hcs
      obtain ⟨rfl, rfl, rfl⟩ := hcs
      exact ⟨[], .inl ⟨rfl, rfl, rfl, rfl⟩⟩
    · simp [Value.cells] at hcs
      obtain ⟨rfl, rfl, rfl⟩ := hcs
      exact ⟨zs, .inr ⟨_, rfl, hl, hm, by simpa using hz, hcell, hwz⟩⟩
  clear hA0 hval0
  refine (walk a0 len0 cap0 z0 a1 len1 cap1 z1 W w0 w1).mono fun e W' ⟨he, bel⟩ => ?_
  subst he
  exact ⟨_, rfl, _, _, _, [], _, [], hW', trodAll_mk1 (shut_bool Try.underlying4 _), (trodAll_cons_mk (Below.trod laidOut (by kernel_rfl) (of_decide_eq_true (by kernel_rfl)) k0 bel lt0) (trodAll_cons_mk (Below.trod laidOut (by kernel_rfl) (of_decide_eq_true (by kernel_rfl)) k1 bel lt1) trodAll_mk0)), rfl, bel.frame _, fun h => by cases h⟩

theorem over : Rows.fnExactQueryDecideRow.holds Try.pinned (OpenSpec.ofChange Rows.fnExactQueryDecideSpec) :=
  OpenClaim.holds_of_wide 3 Try.f3 rfl rfl rfl rfl rfl rfl rfl ⟨rfl, rfl, rfl, rfl, rfl⟩ rfl rfl rfl rfl rfl (by kernel_rfl) Try.func3 (by kernel_rfl)
    (of_decide_eq_true (by kernel_rfl)) (by unfold Func.isWrapper; first | (rw [if_pos (by decide +kernel)]; kernel_rfl) | (rw [if_neg (by decide +kernel)]; exact ⟨rfl, rfl⟩))
    (fun os started H enc _ => lifted os started H enc)

/-- ████ THE STATEMENT ████ -/
theorem proved : Rows.FnExactQueryDecideSaid := over
#print axioms proved
end Go.Proofs.Ytmaapekmndjgiaa.fnExactQueryDecide
