/-
  The program's LedgerSum answers as the model's for every ledger, and writes into none: the law FnExactLedgerSum returns true.
  Conditions: none but the statement's own. Proved: Rows.FnExactLedgerSumSaid.
-/
import Derived.Test.YtgiilckfenemmabRows
import Derived.WalkKit
import Derived.ProofKit
import Derived.OpenShut
import Derived.ShutString
import Derived.ChangeOld
import Derived.Below
import Derived.Carry
import Derived.Lib.SmallJoins
import Derived.Test.YtgiilckfenemmabFp
import Derived.Test.YtgiilckfenemmabBase
import Derived.Test.YtgiilckfenemmabField
import Derived.Test.YtgiilckfenemmabSl
import Derived.Test.YtgiilckfenemmabTri
import Derived.Test.YtgiilckfenemmabFr
import Derived.Test.YtgiilckfenemmabFrl
import Derived.Test.YtgiilckfenemmabFrc
import Derived.Test.YtgiilckfenemmabFrd
import Derived.Test.YtgiilckfenemmabFre
import Derived.Test.YtgiilckfenemmabFrf
import Derived.Test.YtgiilckfenemmabDraw
import Derived.Test.YtgiilckfenemmabFrg
import Derived.Test.YtgiilckfenemmabLg
import Derived.Test.YtgiilckfenemmabFs
import Derived.Test.YtgiilckfenemmabCat
import Derived.Test.YtgiilckfenemmabLed
import Derived.Test.YtgiilckfenemmabRev
import Derived.Test.YtgiilckfenemmabLee
import Derived.Test.YtgiilckfenemmabLef
import Derived.Test.YtgiilckfenemmabLeg
import Derived.Test.YtgiilckfenemmabOpl
import Derived.Test.YtgiilckfenemmabLex
namespace Go.Proofs.Ytgiilckfenemmab.fnExactLedgerSum
open Go.ChangeShapes Go.WideShapes Go.ChangeAt Go.RowKit
open Go.ChangeMaps (open_string shut_string)
set_option linter.unusedVariables false
set_option linter.unusedSimpArgs false

theorem own : ownKnob Try.prog.godebug = none := by kernel_rfl
theorem laidOut : laidOutB Try.prog = true := by kernel_rfl

theorem reg6_call {W0 W W' : World} {p1 p2 p3 p4 p5 p6 : Addr} {x1 x2 x3 x4 x5 x6 : Value} (h : Hid (Below W0.heap.size W0 W) ∧ W.cell? p1 = some x1 ∧ W.cell? p2 = some x2 ∧ W.cell? p3 = some x3 ∧ W.cell? p4 = some x4 ∧ W.cell? p5 = some x5 ∧ W.cell? p6 = some x6) (k : Below W.heap.size W W') :
    Hid (Below W0.heap.size W0 W') ∧ W'.cell? p1 = some x1 ∧ W'.cell? p2 = some x2 ∧ W'.cell? p3 = some x3 ∧ W'.cell? p4 = some x4 ∧ W'.cell? p5 = some x5 ∧ W'.cell? p6 = some x6 := by
  obtain ⟨g1, g2⟩ := reg5_call ⟨h.1, h.2.1, h.2.2.1, h.2.2.2.1, h.2.2.2.2.1, h.2.2.2.2.2.1⟩ k
  exact ⟨g1, g2.1, g2.2.1, g2.2.2.1, g2.2.2.2.1, g2.2.2.2.2, (k.cell (cell_lt h.2.2.2.2.2.2)).trans h.2.2.2.2.2.2⟩
theorem reg6_b {W0 W : World} {p1 p2 p3 p4 p5 p6 : Addr} {x1 x2 x3 x4 x5 x6 : Value} (h : Hid (Below W0.heap.size W0 W) ∧ W.cell? p1 = some x1 ∧ W.cell? p2 = some x2 ∧ W.cell? p3 = some x3 ∧ W.cell? p4 = some x4 ∧ W.cell? p5 = some x5 ∧ W.cell? p6 = some x6) : Below W0.heap.size W0 W := h.1.out
set_option maxHeartbeats 1000000 in
set_option maxRecDepth 100000 in
theorem walk (a0_0 a0_1 : Int) (b0 : Option Addr) (len0 cap0 : Nat) (z0 : List (Int × Int)) (w : World) (w0 : len0 ≤ cap0 ∧ cap0 ≤ maxLen ∧ Sf w b0 len0 z0) :
    Calls Try.prog 4 #[.agg #[.int .i64 a0_0, .int .i64 a0_1, .slice b0 len0 cap0]] w fun e w' => e = .returned (.bool true) ∧ Below w.heap.size w w' := by
  obtain ⟨wcap, wlim, wrow⟩ := w0
  obtain ⟨w1, hw1, Z1, B1, T1⟩ := led_box w a0_0 a0_1 b0 len0 cap0 26
  obtain ⟨c0, c1, c2, -, -, -⟩ := led_at T1
  have H := Lib.hid wrow
  have BB := Lib.hid B1
  have TT := Lib.hid T1
  clear B1 T1 wrow
  by_cases hq : 1048576 < len0
  · have S := Lib.hid (laws_szLedger a0_0 a0_1 b0 len0 cap0 1048576 w1 (by omega) (by omega) (by omega))
    rw [show max (-1) (1048576 - (len0 : Int)) = -1 by omega] at S
    go_enter Try.func4, Try.ntmps4
    go_wp2_with fail
    refine S.out.mono ?_
    rintro e w2 ⟨rfl, b2⟩
    have B2 := Lib.hid (BB.out.trans (b2.mono BB.out.size))
    clear b2
    go_wp2
    go_ret
    exact ⟨rfl, B2.out⟩
  have hm : len0 ≤ 1048576 := by omega
  have S := Lib.hid (laws_szLedger a0_0 a0_1 b0 len0 cap0 1048576 w1 (by omega) (by omega) (by omega))
  rw [show max (-1) (1048576 - (len0 : Int)) = 1048576 - (len0 : Int) by omega] at S
  have hq0 : (len0 : Int) ≤ 1048576 := by omega
  have m1 : (Fr.good a0_0 a0_1 z0 != Fr.good a0_0 a0_1 z0) = false := by simp
  have m2 : ((Fr.total a0_0 a0_1 z0).1 == (Fr.total a0_0 a0_1 z0).1 && (Fr.total a0_0 a0_1 z0).2 == (Fr.total a0_0 a0_1 z0).2) = true := by simp
  go_enter Try.func4, Try.ntmps4
  go_wp2_with fail
  refine S.out.mono ?_
  rintro e w2 ⟨rfl, b2⟩
  have B2 := Lib.hid (BB.out.trans (b2.mono BB.out.size))
  have T2 := Lib.hid (TT.out.below b2 (by omega))
  clear S b2 TT BB c0 c1 c2
  obtain ⟨c0, c1, c2, -, -, -⟩ := led_at T2.out
  go_wp2_with fail
  refine (laws_toLedger _ _ _ _ _ z0 _ (H.out.below B2.out) hm).mono ?_
  rintro e w3 ⟨a3, n3, k3, rfl, o3, b3⟩
  have z3 := b3.size
  have B3 := Lib.hid (B2.out.trans (b3.mono B2.out.size))
  have T3 := Lib.hid (T2.out.below b3 (cell_lt c0))
  have O3 := Lib.hid o3.sf
  have l3 : n3 ≤ 1048576 := by rw [← o3.len, H.out.len]; exact hm
  clear b3 o3 c0 c1 c2 T2 B2
  obtain ⟨c0, c1, c2, -, -, -⟩ := led_at T3.out
  go_wp2_with fail
  refine (spec_LedgerSum _ _ _ _ _ z0 _ O3.out (by omega)).mono ?_
  rintro e w4 ⟨rfl, b4⟩
  have z4 := b4.size
  have B4 := Lib.hid (B3.out.trans (b4.mono B3.out.size))
  have T4 := Lib.hid (T3.out.below b4 (cell_lt c0))
  clear b4 c0 c1 c2 T3 B3 O3 l3
  obtain ⟨v4, hv4, Y4, BV4, TV4⟩ := duo_box w4 (Fr.total a0_0 a0_1 z0).1 (Fr.total a0_0 a0_1 z0).2 29
  have D4 := Lib.hid TV4
  replace B4 := Lib.hid (B4.out.trans (BV4.mono B4.out.size))
  replace T4 := Lib.hid (T4.out.below BV4 (cell_lt (led_at T4.out).1))
  clear BV4 TV4
  obtain ⟨c0, c1, c2, -, -, -⟩ := led_at T4.out
  go_wp2_with fail
  refine (laws_toLedger _ _ _ _ _ z0 _ (H.out.below B4.out) hm).mono ?_
  rintro e w5 ⟨a5, n5, k5, rfl, o5, b5⟩
  have z5 := b5.size
  have B5 := Lib.hid (B4.out.trans (b5.mono B4.out.size))
  have T5 := Lib.hid (T4.out.below b5 (cell_lt c0))
  have D5 := Lib.hid (Tri.below D4.out b5 (cell_lt (duo_at D4.out).1))
  have l5 : n5 ≤ 1048576 := by rw [← o5.len, H.out.len]; exact hm
  have O5 := Lib.hid o5.sf
  clear b5 o5 c0 c1 c2 T4 B4 D4
  obtain ⟨w6, hw6, Z6, B6, T6⟩ := led_box w5 a0_0 a0_1 a5 n5 k5 32
  have O6 := Lib.hid (O5.out.below B6)
  have R6 := Lib.hid (T5.out.below B6 (cell_lt (led_at T5.out).1))
  have D6 := Lib.hid (Tri.below D5.out B6 (cell_lt (duo_at D5.out).1))
  have Q6 := Lib.hid T6
  have BB6 := Lib.hid (B5.out.trans (B6.mono B5.out.size))
  obtain ⟨c0, c1, c2, -, -, -⟩ := led_at T6
  clear B6 T6 B5 T5 O5 D5
  go_wp2_with fail
  refine (impl_LedgerSum _ _ _ _ _ z0 _ O6.out (by omega)).mono ?_
  rintro e w7 ⟨rfl, b7⟩
  have z7 := b7.size
  have O7 := Lib.hid (O6.out.below b7)
  have R7 := Lib.hid (R6.out.below b7 (cell_lt (led_at R6.out).1))
  have Q7 := Lib.hid (Q6.out.below b7 (cell_lt c0))
  have D7 := Lib.hid (Tri.below D6.out b7 (cell_lt (duo_at D6.out).1))
  have B7 := Lib.hid (BB6.out.trans (b7.mono BB6.out.size))
  clear b7 c0 c1 c2 O6 R6 Q6 BB6 D6
  obtain ⟨v7, hv7, Y7, BV7, TV7⟩ := duo_box w7 (Fr.total a0_0 a0_1 z0).1 (Fr.total a0_0 a0_1 z0).2 29
  replace O7 := Lib.hid (O7.out.below BV7)
  replace R7 := Lib.hid (R7.out.below BV7 (cell_lt (led_at R7.out).1))
  replace Q7 := Lib.hid (Q7.out.below BV7 (cell_lt (led_at Q7.out).1))
  replace D7 := Lib.hid (Tri.below D7.out BV7 (cell_lt (duo_at D7.out).1))
  replace B7 := Lib.hid (B7.out.trans (BV7.mono B7.out.size))
  obtain ⟨f0, f1, -, -⟩ := duo_at TV7
  obtain ⟨g0, g1, -, -⟩ := duo_at D7.out
  clear BV7 TV7 D7
  go_wp2_with fail
  refine (laws_eqFrac _ _ _ _ _).mono ?_
  rintro e w10 ⟨rfl, b10⟩
  rw [m2]
  have z10 := b10.size
  replace O7 := Lib.hid (O7.out.below b10)
  replace R7 := Lib.hid (R7.out.below b10 (cell_lt (led_at R7.out).1))
  replace Q7 := Lib.hid (Q7.out.below b10 (cell_lt (led_at Q7.out).1))
  replace B7 := Lib.hid (B7.out.trans (b10.mono B7.out.size))
  clear b10 f0 f1 g0 g1
  obtain ⟨c0, c1, c2, -, -, -⟩ := led_at R7.out
  obtain ⟨d0, d1, d2, -, -, -⟩ := led_at Q7.out
  have S1 := Lib.hid (show Hid (Below w10.heap.size w10 w10.drew) ∧ w10.drew.cell? ⟨w.heap.size, 0, none⟩ = some (.int .i64 a0_0) ∧ w10.drew.cell? ⟨w.heap.size, 1, none⟩ = some (.int .i64 a0_1) ∧ w10.drew.cell? ⟨w.heap.size, 2, none⟩ = some (.slice b0 len0 cap0) ∧ w10.drew.cell? ⟨w5.heap.size, 0, none⟩ = some (.int .i64 a0_0) ∧ w10.drew.cell? ⟨w5.heap.size, 1, none⟩ = some (.int .i64 a0_1) ∧ w10.drew.cell? ⟨w5.heap.size, 2, none⟩ = some (.slice a5 n5 k5) from ⟨Lib.hid (Below.refl _ _).drew, c0, c1, c2, d0, d1, d2⟩)
  clear c0 c1 c2 d0 d1 d2
  go_wp2_with fail
  go_region_held3 (fun w' : World => Hid (Below w10.heap.size w10 w') ∧ w'.cell? ⟨w.heap.size, 0, none⟩ = some (.int .i64 a0_0) ∧ w'.cell? ⟨w.heap.size, 1, none⟩ = some (.int .i64 a0_1) ∧ w'.cell? ⟨w.heap.size, 2, none⟩ = some (.slice b0 len0 cap0) ∧ w'.cell? ⟨w5.heap.size, 0, none⟩ = some (.int .i64 a0_0) ∧ w'.cell? ⟨w5.heap.size, 1, none⟩ = some (.int .i64 a0_1) ∧ w'.cell? ⟨w5.heap.size, 2, none⟩ = some (.slice a5 n5 k5)) (first | exact S1.out | exact reg6_call (by assumption) b8 | exact reg6_call (by assumption) b9) (first | (go_at_call 9; refine (laws_toLedger _ _ _ _ _ z0 _ ((H.out.below B7.out).below (reg6_b (W0 := w10) (by assumption))) hm).mono ?_; rintro e w8 ⟨a8, n8, k8, rfl, o8, b8⟩; have P8 := reg6_call (W0 := w10) (by assumption) b8; have O8 := Lib.hid o8.sf; clear o8) | (go_at_call 11; refine (laws_eqLedger _ _ _ _ _ _ _ _ z0 _ (O7.out.below (reg6_b (W0 := w10) (by assumption))) O8.out (by omega)).mono ?_; rintro e w9 ⟨rfl, b9⟩; have P9 := Lib.hid ((reg6_call (W0 := w10) (by assumption) b9).1.out)))
  all_goals
    have B9 := Lib.hid (B7.out.trans (P9.out.mono B7.out.size))
    go_wp2
    go_ret
    exact ⟨rfl, B9.out⟩

/-! ### THE ROW's STEP: WRITTEN OUT: LEAVE IT -/
set_option maxRecDepth 100000 in
theorem lifted (os : Os) (started : os.Started) (H : Type) (enc : TypeId × Value → H) :
    ReturnsInHanded {} Try.checked os 4 .any (Rows.fnExactLedgerSumSpec.pre6 enc Try.prog Try.f4 Rows.fnExactLedgerSumRow.domain false) (Rows.fnExactLedgerSumSpec.post enc Try.prog Try.f4 false true false false) := by
  refine returnsInHanded_of_change (C := Try.checked) own started (by kernel_rfl) Try.func4
    (ChangeSpec.witness6 (enc := enc) (C := Try.checked) false ⟨#[], #[.agg #[.int .i64 0, .int .i64 0, .slice none 0 0]], []⟩ 8 (by kernel_rfl) (by kernel_rfl) (by kernel_rfl) (by kernel_rfl)) ?_
  intro W base args ds gs before hval0 hW hcnd _
  have hval : ∀ (j : Nat) t v, Try.f4.params[j]? = some t → args[j]? = some v → Value.okWide Try.prog W .any base t v := hval0
  have hW' := hW
  obtain ⟨p, q, hA0, hV, rfl, hfz, hnd⟩ := hW
  have hA : DataW.TrodAll enc Try.prog W 0 (fun _ => true) true Try.f4.params.toList args.toList ds p := hA0
  rw [Try.params4] at hA hval
  obtain ⟨v0, vs0, d0, ds0, p0, q0, hargs, rfl, rfl, h0, r0⟩ := trodAll_cons hA
  obtain ⟨rfl, rfl, rfl⟩ := trodAll_nil r0
  obtain rfl : args = #[v0] := by cases args; simp_all
  obtain ⟨rfl, rfl⟩ := trodVars_none hV
  have k0 := h0
  have lt0 : ∀ x ∈ p0, x.block < W.heap.size := by obtain ⟨m, hm⟩ := k0; exact DataW.trod_lt m _ _ _ hm
  obtain ⟨a0_0, a0_1, b0, len0, cap0, z0, rfl, w0⟩ := open_ledger (hval 0 26 v0 rfl rfl) h0
  clear hA0 hval0
  refine (walk a0_0 a0_1 b0 len0 cap0 z0 W w0).mono fun e W' ⟨he, bel⟩ => ?_
  subst he
  exact ⟨_, rfl, _, _, _, [], _, [], hW', trodAll_mk1 (shut_bool Try.underlying4 _), (trodAll_cons_mk (Below.trod laidOut (by kernel_rfl) (of_decide_eq_true (by kernel_rfl)) k0 bel lt0) trodAll_mk0), rfl, bel.frame _, fun h => by cases h⟩

theorem over : Rows.fnExactLedgerSumRow.holds Try.pinned (OpenSpec.ofChange Rows.fnExactLedgerSumSpec) :=
  OpenClaim.holds_of_wide 4 Try.f4 rfl rfl rfl rfl rfl rfl rfl ⟨rfl, rfl, rfl, rfl, rfl⟩ rfl rfl rfl rfl rfl (by kernel_rfl) Try.func4 (by kernel_rfl)
    (of_decide_eq_true (by kernel_rfl)) (by unfold Func.isWrapper; first | (rw [if_pos (by decide +kernel)]; kernel_rfl) | (rw [if_neg (by decide +kernel)]; exact ⟨rfl, rfl⟩))
    (fun os started H enc _ => lifted os started H enc)

/-- ████ THE STATEMENT ████ -/
theorem proved : Rows.FnExactLedgerSumSaid := over
#print axioms proved
end Go.Proofs.Ytgiilckfenemmab.fnExactLedgerSum
