/-
  A vector that is drawn lists what is drawn at each index, a shorter one is its beginning, and all are elements: the law FnRandVec returns true for every two codes.
  Conditions: none but the statement's own. Proved: Rows.FnRandVecSaid.
-/
import Derived.Test.YtdodjgafjkjajaaRows
import Derived.WalkKit
import Derived.ProofKit
import Derived.OpenShut
import Derived.ShutString
import Derived.ChangeOld
import Derived.Below
import Derived.Test.YtdodjgafjkjajaaFp
import Derived.Test.YtdodjgafjkjajaaRa
import Derived.Test.YtdodjgafjkjajaaBase
import Derived.Test.YtdodjgafjkjajaaField
import Derived.Test.YtdodjgafjkjajaaDraw
import Derived.Test.YtdodjgafjkjajaaRand
import Derived.Test.YtdodjgafjkjajaaSl
import Derived.Test.YtdodjgafjkjajaaLw
import Derived.Test.YtdodjgafjkjajaaRandv
namespace Go.Proofs.Ytdodjgafjkjajaa.fnRandVec
open Go.ChangeShapes Go.WideShapes Go.ChangeAt Go.RowKit
open Go.ChangeMaps (open_string shut_string)
set_option linter.unusedVariables false
set_option linter.unusedSimpArgs false

theorem own : ownKnob Try.prog.godebug = none := by kernel_rfl
theorem laidOut : laidOutB Try.prog = true := by kernel_rfl

set_option maxHeartbeats 1000000 in
set_option maxRecDepth 100000 in
theorem walk (a0 : Option Addr) (len0 cap0 : Nat) (z0 : List Int) (a1 : Option Addr) (len1 cap1 : Nat) (z1 : List Int) (w : World) (w0 : IsRow .u8 w a0 len0 cap0 z0) (w1 : IsRow .u8 w a1 len1 cap1 z1) :
    Calls Try.prog 3 #[.slice a0 len0 cap0, .slice a1 len1 cap1] w fun e w' => e = .returned (.bool true) ∧ Below w.heap.size w w' := by
  obtain ⟨c1, c2⟩ := w0.sizes
  obtain ⟨d1, d2⟩ := w1.sizes
  have Hb := Lib.hid (Bys.of_row w0)
  clear w0 w1
  by_cases hl : 1048576 < len0
  · go_enter Try.func3, Try.ntmps3
    go_wp2
    go_ret
    exact ⟨rfl, Below.refl _ _⟩
  by_cases hl1 : 1048576 < len1
  · go_enter Try.func3, Try.ntmps3
    go_wp2
    go_ret
    exact ⟨rfl, Below.refl _ _⟩
  have B := Lib.hid (Below.refl w.heap.size w)
  go_enter Try.func3, Try.ntmps3
  go_wp2_with fail
  refine (spec_DrawRandVec a0 len0 cap0 w Hb.out c1 c2).mono ?_
  rintro e W1 ⟨x, y, x1, x2, y1, y2, rfl, b_d⟩
  have Z_W1 : w.heap.size ≤ W1.heap.size := b_d.size
  replace B := Lib.hid (B.out.trans (b_d.mono B.out.size))
  clear b_d
  clear c1 c2
  have pl := Lib.hid (Fp.rvOf_len x y)
  have e1 := eqB_self (Fp.rvOf x y)
  go_wp2_with fail
  refine (spec_RandVec _ _ _).mono ?_
  rintro e W2 ⟨a_w, n_w, c_w, rfl, o_w, b_w⟩
  have O_w := Lib.hid o_w
  have L_w := Lib.hid o_w.len
  have Z_W2 : W1.heap.size ≤ W2.heap.size := b_w.size
  replace B := Lib.hid (B.out.trans (b_w.mono B.out.size))
  clear o_w b_w
  have h_w : n_w ≤ 20 := by rw [← L_w.out]; exact pl.out
  go_wp2_with fail
  refine (impl_RandVec _ _ _).mono ?_
  rintro e W3 ⟨a_l, n_l, c_l, rfl, o_l, b_l⟩
  have O_l := Lib.hid o_l
  have L_l := Lib.hid o_l.len
  have Z_W3 : W2.heap.size ≤ W3.heap.size := b_l.size
  replace O_w := Lib.hid (O_w.out.below b_l)
  replace B := Lib.hid (B.out.trans (b_l.mono B.out.size))
  clear o_l b_l
  have h_l : n_l ≤ 20 := by rw [← L_l.out]; exact pl.out
  cases hb : Fp.rvB x y
  · skip
    go_wp2_with fail
    refine (laws_loInts _ _ _ _ _ _ _ _ _ O_l.out.sl O_w.out.sl (by omega) (by omega)).mono ?_
    rintro e W4 hd
    obtain ⟨rfl, b_d⟩ := hd.below
    have Z_W4 : W3.heap.size ≤ W4.heap.size := b_d.size
    clear hd
    replace O_w := Lib.hid (O_w.out.below b_d)
    replace O_l := Lib.hid (O_l.out.below b_d)
    replace B := Lib.hid (B.out.trans (b_d.mono B.out.size))
    clear b_d
    go_wp2_with fail
    refine (laws_loInts _ _ _ _ _ _ _ _ _ O_l.out.sl O_w.out.sl (by omega) (by omega)).mono ?_
    rintro e W5 hd
    obtain ⟨rfl, b_d⟩ := hd.below
    have Z_W5 : W4.heap.size ≤ W5.heap.size := b_d.size
    clear hd
    replace O_w := Lib.hid (O_w.out.below b_d)
    replace O_l := Lib.hid (O_l.out.below b_d)
    replace B := Lib.hid (B.out.trans (b_d.mono B.out.size))
    clear b_d
    go_wp2
    go_ret
    exact ⟨rfl, B.out⟩
  · skip
    have hsi := hb
    simp only [Fp.rvB, Bool.and_eq_true] at hsi
    obtain ⟨hs, hi⟩ := hsi
    obtain ⟨q0, q9⟩ := (Fp.iok_iff y).1 hi
    obtain ⟨n, rfl⟩ := Int.eq_ofNat_of_zero_le q0
    have n20 : n ≤ 20 := by omega
    have LE := Lib.hid (Fp.rvOf_eq hb)
    have en : n_l = n := by have := L_l.out; rw [LE.out, Fp.rvec_len] at this; simpa using this.symm
    subst en
    have HS := Lib.hid hs
    have HB := Lib.hid hb
    clear hs hi hb q0 q9 y1 y2
    go_wp2_with fail
    refine (laws_loInts _ _ _ _ _ _ _ _ _ O_l.out.sl O_w.out.sl (by omega) (by omega)).mono ?_
    rintro e W6 hd
    obtain ⟨rfl, b_d⟩ := hd.below
    have Z_W6 : W3.heap.size ≤ W6.heap.size := b_d.size
    clear hd
    replace O_w := Lib.hid (O_w.out.below b_d)
    replace O_l := Lib.hid (O_l.out.below b_d)
    replace B := Lib.hid (B.out.trans (b_d.mono B.out.size))
    clear b_d
    clear O_w
    go_wp2
    go_loopw [11] (fun i wr => ∃ (k : Nat), k ≤ n_l ∧ i = .int .i64 k ∧ Hid (Own W2.heap.size W3.heap.size wr a_l n_l c_l (Fp.rvOf x n_l)) ∧ Hid (Below w.heap.size w wr)) (fun i _ => n_l - (intOf i).toNat)
    case atStart => exact ⟨0, by omega, rfl, O_l.out, B.out⟩
    case round =>
      clear O_l B
      obtain ⟨k, hk, rfl, O_l, B⟩ := hrel
      by_cases hlt : k < n_l
      · obtain ⟨b, off, z, rfl, hc, C⟩ := O_l.out.sl.get hlt
        have ik : Fp.iok (k : Int) = true := (Fp.iok_iff _).2 ⟨by omega, by omega⟩
        have ze : z = Fp.rat x (k : Int) := by
          rw [C.out, LE.out, Fp.rat_eq HS.out ik, Fp.rvec_get (by simpa using hlt)]
        have zo : Fp.ok z = true := by rw [ze]; exact Fp.rat_ok x (k : Int)
        have tb : (z != Fp.rat x (k : Int)) = false := by rw [ze]; simp
        have fo : ∀ W, Calls Try.prog 15 #[.int .i64 z] W fun e w' => e = .returned (.bool true) ∧ W = w' := fun W => by
          have := impl_FieldOk z W
          rwa [zo] at this
        have FO := Lib.hid fo
        clear ik C ze zo fo
        go_wp2
        go_quiet (first | (go_at_call 14; exact Calls.quiet_of_same (quiet_l (impl_RandAt _ _ _))) | (go_at_call 15; exact Calls.quiet_of_same (quiet_l (FO.out _))))
        replace O_l := Lib.hid (O_l.out.drewN nq)
        replace B := Lib.hid (below_drewN B.out nq)
        go_wp2
        go_roundw
        case rel => exact ⟨k + 1, by omega, by go_num, O_l.out, B.out⟩
        case measure => simp [intOf]; omega
      · have e : k = n_l := by omega
        subst e
        obtain ⟨j, hj, ej⟩ : ∃ j : Nat, j ≤ k ∧ (len1 : Int) % ((k : Int) + 1) = (j : Int) := ⟨len1 % (k + 1), Nat.lt_succ_iff.1 (Nat.mod_lt _ (by omega)), by simp⟩
        have RB : Fp.rvB x (j : Int) = true := Fp.rvB_eq HS.out ((Fp.iok_iff _).2 ⟨by omega, by omega⟩)
        have CT : Hid ((Fp.rvOf x (k : Int)).take j = Fp.rvOf x (j : Int)) := by
          show _ = _
          rw [LE.out, Fp.rvOf_eq RB]
          simpa using Fp.rvec_take (s := x) hj
        have RV := Lib.hid (impl_RandVec x (j : Int) wr)
        rw [RB] at RV
        have e2 := eqB_self (Fp.rvOf x (j : Int))
        clear hlt hk
        go_wp2_with fail
        rw [ej]
        refine RV.out.mono ?_
        rintro e W7 ⟨a_x, n_x, c_x, rfl, o_x, b_x⟩
        have O_x := Lib.hid o_x
        have h_x : n_x = j := by rw [← o_x.len, Fp.rvOf_eq RB, Fp.rvec_len]; simp
        subst h_x
        replace O_l := Lib.hid (O_l.out.below b_x)
        replace B := Lib.hid (B.out.trans (b_x.mono B.out.size))
        have SC := Lib.hid (O_l.out.sl.cut hj)
        rw [CT.out] at SC
        have xc : n_x ≤ c_l := Nat.le_trans hj O_l.out.le
        clear o_x b_x RB
        go_wp2_with fail
        refine (laws_loInts _ _ _ _ _ _ _ _ _ O_x.out.sl SC.out (by omega) (by omega)).mono ?_
        rintro e W8 hd
        obtain ⟨rfl, b_d⟩ := hd.below
        replace B := Lib.hid (B.out.trans (b_d.mono B.out.size))
        clear hd b_d
        go_wp2
        go_ret
        exact ⟨rfl, B.out⟩

/-! ### THE ROW's STEP: WRITTEN OUT: LEAVE IT -/
set_option maxRecDepth 100000 in
theorem lifted (os : Os) (started : os.Started) (H : Type) (enc : TypeId × Value → H) :
    ReturnsInHanded {} Try.checked os 3 .any (Rows.fnRandVecSpec.pre6 enc Try.prog Try.f3 Rows.fnRandVecRow.domain false) (Rows.fnRandVecSpec.post enc Try.prog Try.f3 false true false false) := by
  refine returnsInHanded_of_change (C := Try.checked) own started (by kernel_rfl) Try.func3
    (ChangeSpec.witness6 (enc := enc) (C := Try.checked) false ⟨#[], #[.slice none 0 0, .slice none 0 0], []⟩ 8 (by kernel_rfl) (by kernel_rfl) (by kernel_rfl) (by kernel_rfl)) ?_
  intro W base args ds gs before hval0 hW hcnd _
  have hval : ∀ (j : Nat) t v, Try.f3.params[j]? = some t → args[j]? = some v → Value.okWide Try.prog W .any base t v := hval0
  have hW' := hW
  obtain ⟨p, q, hA0, hV, rfl, hfz, hnd⟩ := hW
  have hA : DataW.TrodAll enc Try.prog W 0 (fun _ => true) true Try.f3.params.toList args.toList ds p := hA0
  rw [Try.params3] at hA hval
  obtain ⟨v0, vs0, d0, ds0, p0, q0, hargs, rfl, rfl, h0, r0⟩ := trodAll_cons hA
  obtain ⟨v1, vs1, d1, ds1, p1, q1, rfl, rfl, rfl, h1, r1⟩ := trodAll_cons r0
  obtain ⟨rfl, rfl, rfl⟩ := trodAll_nil r1
  obtain rfl : args = #[v0, v1] := by cases args; simp_all
  obtain ⟨rfl, rfl⟩ := trodVars_none hV
  obtain ⟨a0, len0, cap0, rfl⟩ := okWide_slice Try.underlying22 (hval 0 22 v0 rfl rfl)
  have k0 := h0
  have lt0 : ∀ x ∈ p0, x.block < W.heap.size := by obtain ⟨m, hm⟩ := k0; exact DataW.trod_lt m _ _ _ hm
  obtain ⟨z0, w0⟩ : ∃ zs, IsRow .u8 W a0 len0 cap0 zs := by
    obtain ⟨fuel, hf⟩ := h0
    rcases open_ints Try.underlying22 Try.underlying5 (by kernel_rfl) hf with ⟨hcs, _⟩ | ⟨x, l, c, zs, hcs, _, hl, hm, hz, _, hcell, hwz⟩
    · simp [Value.cells] at hcs
      obtain ⟨rfl, rfl, rfl⟩ := hcs
      exact ⟨[], .inl ⟨rfl, rfl, rfl, rfl⟩⟩
    · simp [Value.cells] at hcs
      obtain ⟨rfl, rfl, rfl⟩ := hcs
      exact ⟨zs, .inr ⟨_, rfl, hl, hm, by simpa using hz, hcell, hwz⟩⟩
  obtain ⟨a1, len1, cap1, rfl⟩ := okWide_slice Try.underlying22 (hval 1 22 v1 rfl rfl)
  have k1 := h1
  have lt1 : ∀ x ∈ p1, x.block < W.heap.size := by obtain ⟨m, hm⟩ := k1; exact DataW.trod_lt m _ _ _ hm
  obtain ⟨z1, w1⟩ : ∃ zs, IsRow .u8 W a1 len1 cap1 zs := by
    obtain ⟨fuel, hf⟩ := h1
    rcases open_ints Try.underlying22 Try.underlying5 (by kernel_rfl) hf with ⟨hcs, _⟩ | ⟨x, l, c, zs, hcs, _, hl, hm, hz, _, hcell, hwz⟩
    · simp [Value.cells] at hcs
      obtain ⟨rfl, rfl, rfl⟩ := hcs
      exact ⟨[], .inl ⟨rfl, rfl, rfl, rfl⟩⟩
    · simp [Value.cells] at hcs
      obtain ⟨rfl, rfl, rfl⟩ := hcs
      exact ⟨zs, .inr ⟨_, rfl, hl, hm, by simpa using hz, hcell, hwz⟩⟩
  clear hA0 hval0
  refine (walk a0 len0 cap0 z0 a1 len1 cap1 z1 W w0 w1).mono fun e W' ⟨he, bel⟩ => ?_
  subst he
  exact ⟨_, rfl, _, _, _, [], _, [], hW', trodAll_mk1 (shut_bool Try.underlying4 _), (trodAll_cons_mk (Below.trod laidOut (by kernel_rfl) (of_decide_eq_true (by kernel_rfl)) k0 bel lt0) (trodAll_cons_mk (Below.trod laidOut (by kernel_rfl) (of_decide_eq_true (by kernel_rfl)) k1 bel lt1) trodAll_mk0)), rfl, bel.frame _, fun h => by cases h⟩

theorem over : Rows.fnRandVecRow.holds Try.pinned (OpenSpec.ofChange Rows.fnRandVecSpec) :=
  OpenClaim.holds_of_wide 3 Try.f3 rfl rfl rfl rfl rfl rfl rfl ⟨rfl, rfl, rfl, rfl, rfl⟩ rfl rfl rfl rfl rfl (by kernel_rfl) Try.func3 (by kernel_rfl)
    (of_decide_eq_true (by kernel_rfl)) (by unfold Func.isWrapper; first | (rw [if_pos (by decide +kernel)]; kernel_rfl) | (rw [if_neg (by decide +kernel)]; exact ⟨rfl, rfl⟩))
    (fun os started H enc _ => lifted os started H enc)

/-- ████ THE STATEMENT ████ -/
theorem proved : Rows.FnRandVecSaid := over
#print axioms proved
end Go.Proofs.Ytdodjgafjkjajaa.fnRandVec
