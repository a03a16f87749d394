/-
  Values, each so often as Lagrange's factors say, add up to the value of the polynomial through them: the law FnLine returns true for every two codes.
  Conditions: none but the statement's own. Proved: Rows.FnLineSaid.
-/
import Derived.Test.YtbehnbemhnnmfaaRows
import Derived.WalkKit
import Derived.ProofKit
import Derived.OpenShut
import Derived.ShutString
import Derived.ChangeOld
import Derived.Below
import Derived.Test.YtbehnbemhnnmfaaFp
import Derived.Test.YtbehnbemhnnmfaaBase
import Derived.Test.YtbehnbemhnnmfaaField
import Derived.Test.YtbehnbemhnnmfaaSl
import Derived.Test.YtbehnbemhnnmfaaLw
import Derived.Test.YtbehnbemhnnmfaaPoly
import Derived.Test.YtbehnbemhnnmfaaPline
import Derived.Test.YtbehnbemhnnmfaaPthr
import Derived.Test.YtbehnbemhnnmfaaPths
import Derived.Test.YtbehnbemhnnmfaaDraw
import Derived.Test.YtbehnbemhnnmfaaDlist
namespace Go.Proofs.Ytbehnbemhnnmfaa.fnLine
open Go.ChangeShapes Go.WideShapes Go.ChangeAt Go.RowKit
open Go.ChangeMaps (open_string shut_string)
set_option linter.unusedVariables false
set_option linter.unusedSimpArgs false

theorem own : ownKnob Try.prog.godebug = none := by kernel_rfl
theorem laidOut : laidOutB Try.prog = true := by kernel_rfl

theorem line_sum {n : Nat} {x : Int} {vals : List Int} (hl : vals.length = n) (h9 : n ≤ 9) (hv : Fp.pok vals = true) (hx : Fp.ok x = true) : Fp.at_ (thrOf vals) x = Fp.S (fun j => (Fp.lagL n x).getD j 0 * vals.getD j 0) n % 31 := by
  subst hl
  rw [thrOf_yes hv, Fp.at_eq (Fp.thr_pok h9) hx, Fp.horn_ev]
  have h := Fp.thr_ev (vals := vals) (by omega) hx
  refine Eq.trans h ?_
  rw [Fp.S_congr fun j hj => ?_]
  show vals.getD j 0 * _ = _
  rw [Fp.lagL, Fp.getD_map _ hj, Int.mul_comm]
theorem some_pok (n m : Nat) (h : m ≤ 9) : Fp.pok (some_ n m) = true := by
  rw [Fp.pok_iff, some_len]
  refine ⟨h, fun z hz => ?_⟩
  simp [some_] at hz
  obtain ⟨i, _, rfl⟩ := hz
  exact Fp.emod_ok _
set_option maxHeartbeats 1000000 in
set_option maxRecDepth 100000 in
theorem walk (a0 : Option Addr) (len0 cap0 : Nat) (z0 : List Int) (a1 : Option Addr) (len1 cap1 : Nat) (z1 : List Int) (w : World) (w0 : IsRow .u8 w a0 len0 cap0 z0) (w1 : IsRow .u8 w a1 len1 cap1 z1) :
    Calls Try.prog 14 #[.slice a0 len0 cap0, .slice a1 len1 cap1] w fun e w' => e = .returned (.bool true) ∧ Below w.heap.size w w' := by
  obtain ⟨c1, c2⟩ := w0.sizes
  obtain ⟨d1, d2⟩ := w1.sizes
  have Hb := Lib.hid (Bys.of_row w0)
  clear w0 w1
  by_cases hl : 1048576 < len0
  · go_enter Try.func14, Try.ntmps14
    go_wp2
    go_ret
    exact ⟨rfl, Below.refl _ _⟩
  by_cases hl' : 1048576 < len1
  · go_enter Try.func14, Try.ntmps14
    go_wp2
    go_ret
    exact ⟨rfl, Below.refl _ _⟩
  have B := Lib.hid (Below.refl w.heap.size w)
  go_enter Try.func14, Try.ntmps14
  go_wp2_with fail
  refine (spec_DrawPolyLine a0 len0 cap0 w Hb.out c1 c2).mono ?_
  rintro e W1 ⟨m, x, m1, m2, x1, x2, rfl, b_d⟩
  have Z_W1 : w.heap.size ≤ W1.heap.size := b_d.size
  replace B := Lib.hid (B.out.trans (b_d.mono B.out.size))
  clear b_d
  clear c1 c2 d1 d2
  have pl := Lib.hid (lineOf_len m x)
  have e1 := eqB_self (lineOf m x)
  go_wp2_with fail
  refine (impl_PolyLine _ _ _).mono ?_
  rintro e W2 ⟨a_l, n_l, c_l, rfl, o_l, b_l⟩
  have O_l := Lib.hid o_l
  have L_l := Lib.hid o_l.len
  have Z_W2 : W1.heap.size ≤ W2.heap.size := b_l.size
  replace B := Lib.hid (B.out.trans (b_l.mono B.out.size))
  clear o_l b_l
  have h_l : n_l ≤ 9 := by rw [← L_l.out]; exact pl.out
  go_wp2_with fail
  refine (spec_PolyLine _ _ _).mono ?_
  rintro e W3 ⟨a_s, n_s, c_s, rfl, o_s, b_s⟩
  have O_s := Lib.hid o_s
  have L_s := Lib.hid o_s.len
  have Z_W3 : W2.heap.size ≤ W3.heap.size := b_s.size
  replace O_l := Lib.hid (O_l.out.below b_s)
  replace B := Lib.hid (B.out.trans (b_s.mono B.out.size))
  clear o_s b_s
  have h_s : n_s ≤ 9 := by rw [← L_s.out]; exact pl.out
  go_wp2_with fail
  refine (laws_loInts _ _ _ _ _ _ _ _ _ O_l.out.sl O_s.out.sl (by omega) (by omega)).mono ?_
  rintro e W4 hd
  obtain ⟨rfl, b_d⟩ := hd.below
  have Z_W4 : W3.heap.size ≤ W4.heap.size := b_d.size
  clear hd
  replace O_l := Lib.hid (O_l.out.below b_d)
  replace O_s := Lib.hid (O_s.out.below b_d)
  replace B := Lib.hid (B.out.trans (b_d.mono B.out.size))
  clear b_d
  by_cases n0 : n_l = 0
  · subst n0
    go_wp2_with fail
    refine (spec_PolyLine _ _ _).mono ?_
    rintro e W5 ⟨a_t, n_t, c_t, rfl, o_t, b_t⟩
    have O_t := Lib.hid o_t
    have L_t := Lib.hid o_t.len
    have Z_W5 : W4.heap.size ≤ W5.heap.size := b_t.size
    replace O_l := Lib.hid (O_l.out.below b_t)
    replace O_s := Lib.hid (O_s.out.below b_t)
    replace B := Lib.hid (B.out.trans (b_t.mono B.out.size))
    clear o_t b_t
    have h_t : n_t ≤ 9 := by rw [← L_t.out]; exact pl.out
    go_wp2_with fail
    refine (laws_loInts _ _ _ _ _ _ _ _ _ O_l.out.sl O_t.out.sl (by omega) (by omega)).mono ?_
    rintro e W6 hd
    obtain ⟨rfl, b_d⟩ := hd.below
    have Z_W6 : W5.heap.size ≤ W6.heap.size := b_d.size
    clear hd
    replace O_l := Lib.hid (O_l.out.below b_d)
    replace O_s := Lib.hid (O_s.out.below b_d)
    replace O_t := Lib.hid (O_t.out.below b_d)
    replace B := Lib.hid (B.out.trans (b_d.mono B.out.size))
    clear b_d
    go_wp2
    go_ret
    exact ⟨rfl, B.out⟩
  · have nb : ((n_l : Int) == 0) = false := by simp; omega
    have hne : lineOf m x ≠ [] := fun h => by have := L_l.out; rw [h] at this; simp at this; omega
    have hm : inB m 0 9 = true := by
      cases h : inB m 0 9
      · exact absurd (lineOf_no h) hne
      · rfl
    have hx : Fp.ok x = true := by
      cases h : Fp.ok x
      · exact absurd (lineOf_nx h) hne
      · rfl
    obtain ⟨q0, q9⟩ := inB_iff.1 hm
    obtain ⟨n, rfl⟩ := Int.eq_ofNat_of_zero_le q0
    have n9 : n ≤ 9 := by omega
    have LE := Lib.hid (lineOf_yes n9 hx)
    rw [LE.out] at O_l L_l
    have en : n_l = n := by have := L_l.out; simp [Fp.lagL] at this; exact this.symm
    subst en
    clear hne hm q0 q9 m1 m2 n0
    have VP := Lib.hid (some_pok len1 n_l n9)
    have VL := Lib.hid (some_len len1 n_l)
    go_wp2_with fail
    refine (laws_loSome len1 n_l _ (by omega) (by omega)).mono ?_
    rintro e W7 ⟨a_v, n_v, c_v, rfl, o_v, b_v⟩
    have O_v := Lib.hid o_v
    have L_v := Lib.hid o_v.len
    have Z_W7 : W4.heap.size ≤ W7.heap.size := b_v.size
    replace O_l := Lib.hid (O_l.out.below b_v)
    replace O_s := Lib.hid (O_s.out.below b_v)
    replace B := Lib.hid (B.out.trans (b_v.mono B.out.size))
    clear o_v b_v
    have h_v : n_v = n_l := by rw [← L_v.out]; exact some_len _ _
    subst h_v
    go_wp2
    go_loopw [9, 10] (fun s i wr => ∃ (k : Nat) (y : Int), k ≤ n_v ∧ Fp.ok y = true ∧ Hid (y = Fp.S (fun j => (Fp.lagL n_v x).getD j 0 * (some_ len1 n_v).getD j 0) k % 31) ∧ s = .int .i64 y ∧ i = .int .i64 k ∧ Hid (Sl wr a_l n_v (Fp.lagL n_v x)) ∧ Hid (Sl wr a_v n_v (some_ len1 n_v)) ∧ Hid (Below w.heap.size w wr)) (fun _ i _ => n_v - (intOf i).toNat)
    case atStart => exact ⟨0, 0, by omega, rfl, rfl, rfl, rfl, O_l.out.sl, O_v.out.sl, B.out⟩
    case round =>
      clear O_l O_v B
      obtain ⟨k, y, hk, hy, Y, rfl, rfl, O_l, O_v, B⟩ := hrel
      by_cases hlt : k < n_v
      · obtain ⟨b, off, c, rfl, hc, C⟩ := O_l.out.get hlt
        obtain ⟨b', off', d, rfl, hd, D⟩ := O_v.out.get hlt
        have hco : Fp.ok c = true := by rw [C.out, Fp.lagL, Fp.getD_map _ hlt]; exact Fp.lagTo_ok _ _ _
        have hdo : Fp.ok d = true := by rw [D.out]; exact Fp.pok_get VP.out _
        have Y2 : Hid (Fp.sum y (Fp.mul c d) = Fp.S (fun j => (Fp.lagL n_v x).getD j 0 * (some_ len1 n_v).getD j 0) (k + 1) % 31) := by
          show _ = _
          rw [Fp.S_succ, ← C.out, ← D.out, Fp.sum_eq hy (Fp.mul_ok _ _), Fp.mul_eq hco hdo, Y.out]; omega
        go_wp2
        go_quiet (first | (go_at_call 24; exact Calls.quiet_of_same (quiet_l (impl_FieldMul _ _ _))) | (go_at_call 23; exact Calls.quiet_of_same (quiet_l (impl_FieldSum _ _ _))))
        go_wp2
        go_roundw
        case rel => exact ⟨k + 1, _, by omega, Fp.sum_ok _ _, Y2.out, rfl, by go_num, O_l.out.drewN nq, O_v.out.drewN nq, below_drewN B.out nq⟩
        case measure => simp [intOf]; omega
      · have e : k = n_v := by omega
        subst e
        have ES : (y == Fp.at_ (thrOf (some_ len1 k)) x) = true := beqT (by rw [line_sum VL.out n9 VP.out hx]; exact Y.out)
        go_wp2_with fail
        refine (impl_PolyThrough _ _ _ _ _ O_v.out).mono ?_
        rintro e W8 ⟨a_t, n_t, c_t, rfl, o_t, b_t⟩
        have O_t := Lib.hid o_t
        have L_t := Lib.hid o_t.len
        have Z_W8 : wr.heap.size ≤ W8.heap.size := b_t.size
        replace B := Lib.hid (B.out.trans (b_t.mono B.out.size))
        clear o_t b_t
        go_wp2_with fail
        refine (impl_PolyAt _ _ _ _ _ _ O_t.out.sl).mono ?_
        rintro e W9 hd
        obtain ⟨rfl, b_d⟩ := hd.below
        have Z_W9 : W8.heap.size ≤ W9.heap.size := b_d.size
        clear hd
        replace O_t := Lib.hid (O_t.out.below b_d)
        replace B := Lib.hid (B.out.trans (b_d.mono B.out.size))
        clear b_d
        go_wp2
        go_ret
        exact ⟨rfl, B.out⟩

/-! ### THE ROW's STEP: WRITTEN OUT: LEAVE IT -/
set_option maxRecDepth 100000 in
theorem lifted (os : Os) (started : os.Started) (H : Type) (enc : TypeId × Value → H) :
    ReturnsInHanded {} Try.checked os 14 .any (Rows.fnLineSpec.pre6 enc Try.prog Try.f14 Rows.fnLineRow.domain false) (Rows.fnLineSpec.post enc Try.prog Try.f14 false true false false) := by
  refine returnsInHanded_of_change (C := Try.checked) own started (by kernel_rfl) Try.func14
    (ChangeSpec.witness6 (enc := enc) (C := Try.checked) false ⟨#[], #[.slice none 0 0, .slice none 0 0], []⟩ 8 (by kernel_rfl) (by kernel_rfl) (by kernel_rfl) (by kernel_rfl)) ?_
  intro W base args ds gs before hval0 hW hcnd _
  have hval : ∀ (j : Nat) t v, Try.f14.params[j]? = some t → args[j]? = some v → Value.okWide Try.prog W .any base t v := hval0
  have hW' := hW
  obtain ⟨p, q, hA0, hV, rfl, hfz, hnd⟩ := hW
  have hA : DataW.TrodAll enc Try.prog W 0 (fun _ => true) true Try.f14.params.toList args.toList ds p := hA0
  rw [Try.params14] at hA hval
  obtain ⟨v0, vs0, d0, ds0, p0, q0, hargs, rfl, rfl, h0, r0⟩ := trodAll_cons hA
  obtain ⟨v1, vs1, d1, ds1, p1, q1, rfl, rfl, rfl, h1, r1⟩ := trodAll_cons r0
  obtain ⟨rfl, rfl, rfl⟩ := trodAll_nil r1
  obtain rfl : args = #[v0, v1] := by cases args; simp_all
  obtain ⟨rfl, rfl⟩ := trodVars_none hV
  obtain ⟨a0, len0, cap0, rfl⟩ := okWide_slice Try.underlying28 (hval 0 28 v0 rfl rfl)
  have k0 := h0
  have lt0 : ∀ x ∈ p0, x.block < W.heap.size := by obtain ⟨m, hm⟩ := k0; exact DataW.trod_lt m _ _ _ hm
  obtain ⟨z0, w0⟩ : ∃ zs, IsRow .u8 W a0 len0 cap0 zs := by
    obtain ⟨fuel, hf⟩ := h0
    rcases open_ints Try.underlying28 Try.underlying5 (by kernel_rfl) hf with ⟨hcs, _⟩ | ⟨x, l, c, zs, hcs, _, hl, hm, hz, _, hcell, hwz⟩
    · simp [Value.cells] at hcs
      obtain ⟨rfl, rfl, rfl⟩ := hcs
      exact ⟨[], .inl ⟨rfl, rfl, rfl, rfl⟩⟩
    · simp [Value.cells] at hcs
      obtain ⟨rfl, rfl, rfl⟩ := hcs
      exact ⟨zs, .inr ⟨_, rfl, hl, hm, by simpa using hz, hcell, hwz⟩⟩
  obtain ⟨a1, len1, cap1, rfl⟩ := okWide_slice Try.underlying28 (hval 1 28 v1 rfl rfl)
  have k1 := h1
  have lt1 : ∀ x ∈ p1, x.block < W.heap.size := by obtain ⟨m, hm⟩ := k1; exact DataW.trod_lt m _ _ _ hm
  obtain ⟨z1, w1⟩ : ∃ zs, IsRow .u8 W a1 len1 cap1 zs := by
    obtain ⟨fuel, hf⟩ := h1
    rcases open_ints Try.underlying28 Try.underlying5 (by kernel_rfl) hf with ⟨hcs, _⟩ | ⟨x, l, c, zs, hcs, _, hl, hm, hz, _, hcell, hwz⟩
    · simp [Value.cells] at hcs
      obtain ⟨rfl, rfl, rfl⟩ := hcs
      exact ⟨[], .inl ⟨rfl, rfl, rfl, rfl⟩⟩
    · simp [Value.cells] at hcs
      obtain ⟨rfl, rfl, rfl⟩ := hcs
      exact ⟨zs, .inr ⟨_, rfl, hl, hm, by simpa using hz, hcell, hwz⟩⟩
  clear hA0 hval0
  refine (walk a0 len0 cap0 z0 a1 len1 cap1 z1 W w0 w1).mono fun e W' ⟨he, bel⟩ => ?_
  subst he
  exact ⟨_, rfl, _, _, _, [], _, [], hW', trodAll_mk1 (shut_bool Try.underlying4 _), (trodAll_cons_mk (Below.trod laidOut (by kernel_rfl) (of_decide_eq_true (by kernel_rfl)) k0 bel lt0) (trodAll_cons_mk (Below.trod laidOut (by kernel_rfl) (of_decide_eq_true (by kernel_rfl)) k1 bel lt1) trodAll_mk0)), rfl, bel.frame _, fun h => by cases h⟩

theorem over : Rows.fnLineRow.holds Try.pinned (OpenSpec.ofChange Rows.fnLineSpec) :=
  OpenClaim.holds_of_wide 14 Try.f14 rfl rfl rfl rfl rfl rfl rfl ⟨rfl, rfl, rfl, rfl, rfl⟩ rfl rfl rfl rfl rfl (by kernel_rfl) Try.func14 (by kernel_rfl)
    (of_decide_eq_true (by kernel_rfl)) (by unfold Func.isWrapper; first | (rw [if_pos (by decide +kernel)]; kernel_rfl) | (rw [if_neg (by decide +kernel)]; exact ⟨rfl, rfl⟩))
    (fun os started H enc _ => lifted os started H enc)

/-- ████ THE STATEMENT ████ -/
theorem proved : Rows.FnLineSaid := over
#print axioms proved
end Go.Proofs.Ytbehnbemhnnmfaa.fnLine
