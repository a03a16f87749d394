/-
  Each number that is not 0 or 1 is found by some number that is drawn: the law FnCheckEach returns true for every two codes.
  Conditions: none but the statement's own. Proved: Rows.FnCheckEachSaid.
-/
import Derived.Test.YtlfmginnffdicaaRows
import Derived.WalkKit
import Derived.ProofKit
import Derived.OpenShut
import Derived.ShutString
import Derived.ChangeOld
import Derived.Below
import Derived.Test.YtlfmginnffdicaaFp
import Derived.Test.YtlfmginnffdicaaBase
import Derived.Test.YtlfmginnffdicaaField
import Derived.Test.YtlfmginnffdicaaSl
import Derived.Test.YtlfmginnffdicaaLw
import Derived.Test.YtlfmginnffdicaaPm
import Derived.Test.YtlfmginnffdicaaShok
import Derived.Test.YtlfmginnffdicaaTy
import Derived.Test.YtlfmginnffdicaaTym
import Derived.Test.YtlfmginnffdicaaTyn
import Derived.Test.YtlfmginnffdicaaTyc
import Derived.Test.YtlfmginnffdicaaTys
import Derived.Test.YtlfmginnffdicaaTyr
import Derived.Test.YtlfmginnffdicaaDraw
import Derived.Test.YtlfmginnffdicaaDlist
import Derived.Test.YtlfmginnffdicaaTyd
namespace Go.Proofs.Ytlfmginnffdicaa.fnCheckEach
open Go.ChangeShapes Go.WideShapes Go.ChangeAt Go.RowKit
open Go.ChangeMaps (open_string shut_string)
set_option linter.unusedVariables false
set_option linter.unusedSimpArgs false

theorem own : ownKnob Try.prog.godebug = none := by kernel_rfl
theorem laidOut : laidOutB Try.prog = true := by kernel_rfl

set_option maxHeartbeats 1000000 in
set_option maxRecDepth 100000 in
theorem walk (a0 : Option Addr) (len0 cap0 : Nat) (z0 : List Int) (a1 : Option Addr) (len1 cap1 : Nat) (z1 : List Int) (w : World) (w0 : IsRow .u8 w a0 len0 cap0 z0) (w1 : IsRow .u8 w a1 len1 cap1 z1) :
    Calls Try.prog 6 #[.slice a0 len0 cap0, .slice a1 len1 cap1] w fun e w' => e = .returned (.bool true) ∧ Below w.heap.size w w' := by
  obtain ⟨c1, c2⟩ := w0.sizes
  obtain ⟨d1, d2⟩ := w1.sizes
  have Hb := Lib.hid (Bys.of_row w0)
  clear w0 w1
  by_cases hl : 1048576 < len0
  · go_enter Try.func6, Try.ntmps6
    go_wp2
    go_ret
    exact ⟨rfl, Below.refl _ _⟩
  by_cases hl1 : 1048576 < len1
  · go_enter Try.func6, Try.ntmps6
    go_wp2
    go_ret
    exact ⟨rfl, Below.refl _ _⟩
  have B := Lib.hid (Below.refl w.heap.size w)
  go_enter Try.func6, Try.ntmps6
  go_wp2_with fail
  refine (spec_DrawTypeMake a0 len0 cap0 w Hb.out c1 c2).mono ?_
  rintro e W1 ⟨k, v, k1, k2, v1, v2, rfl, b_d⟩
  have Z_W1 : w.heap.size ≤ W1.heap.size := b_d.size
  replace B := Lib.hid (B.out.trans (b_d.mono B.out.size))
  clear b_d
  clear c1 c2
  have e1 := eqB_self (Fp.tmk k v)
  have pl := Lib.hid (Fp.tmk_len k v)
  go_wp2_with fail
  refine (spec_TypeMake _ _ _).mono ?_
  rintro e W2 ⟨a_p, n_p, c_p, rfl, o_p, b_p⟩
  have O_p := Lib.hid o_p
  have L_p := Lib.hid o_p.len
  have Z_W2 : W1.heap.size ≤ W2.heap.size := b_p.size
  replace B := Lib.hid (B.out.trans (b_p.mono B.out.size))
  clear o_p b_p
  have h_p : n_p ≤ 4 := by rw [← L_p.out]; exact pl.out
  go_wp2_with fail
  refine (impl_TypeMake _ _ _).mono ?_
  rintro e W3 ⟨a_q, n_q, c_q, rfl, o_q, b_q⟩
  have O_q := Lib.hid o_q
  have L_q := Lib.hid o_q.len
  have Z_W3 : W2.heap.size ≤ W3.heap.size := b_q.size
  replace O_p := Lib.hid (O_p.out.below b_q)
  replace B := Lib.hid (B.out.trans (b_q.mono B.out.size))
  clear o_q b_q
  have h_q : n_q ≤ 4 := by rw [← L_q.out]; exact pl.out
  cases hc : Fp.tcan k v
  · skip
    go_wp2_with fail
    refine (laws_loInts _ _ _ _ _ _ _ _ _ O_q.out.sl O_p.out.sl (by omega) (by omega)).mono ?_
    rintro e W4 hd
    obtain ⟨rfl, b_d⟩ := hd.below
    have Z_W4 : W3.heap.size ≤ W4.heap.size := b_d.size
    clear hd
    replace O_p := Lib.hid (O_p.out.below b_d)
    replace O_q := Lib.hid (O_q.out.below b_d)
    replace B := Lib.hid (B.out.trans (b_d.mono B.out.size))
    clear b_d
    go_wp2_with fail
    refine (laws_loInts _ _ _ _ _ _ _ _ _ O_q.out.sl O_p.out.sl (by omega) (by omega)).mono ?_
    rintro e W5 hd
    obtain ⟨rfl, b_d⟩ := hd.below
    have Z_W5 : W4.heap.size ≤ W5.heap.size := b_d.size
    clear hd
    replace O_p := Lib.hid (O_p.out.below b_d)
    replace O_q := Lib.hid (O_q.out.below b_d)
    replace B := Lib.hid (B.out.trans (b_d.mono B.out.size))
    clear b_d
    go_wp2
    go_ret
    exact ⟨rfl, B.out⟩
  · skip
    go_wp2_with fail
    refine (laws_loInts _ _ _ _ _ _ _ _ _ O_q.out.sl O_p.out.sl (by omega) (by omega)).mono ?_
    rintro e W6 hd
    obtain ⟨rfl, b_d⟩ := hd.below
    have Z_W6 : W3.heap.size ≤ W6.heap.size := b_d.size
    clear hd
    replace O_p := Lib.hid (O_p.out.below b_d)
    replace O_q := Lib.hid (O_q.out.below b_d)
    replace B := Lib.hid (B.out.trans (b_d.mono B.out.size))
    clear b_d
    clear O_p
    have hk := (Fp.tcan_iff.1 hc).1
    have nq : n_q = Fp.tlen k := by rw [← L_q.out]; exact Fp.tmk_len_yes hc
    have np : 0 < n_q := by rw [nq]; exact Fp.tlen_pos hk
    obtain ⟨p, hp⟩ : ∃ p : Nat, (len1 : Int) % (n_q : Int) = (p : Int) := ⟨len1 % n_q, by simp⟩
    have hpl : p < n_q := by
      have := Int.emod_lt_of_pos (len1 : Int) (show (0 : Int) < (n_q : Int) by omega)
      omega
    obtain ⟨y, hy⟩ : ∃ y : Nat, (len1 : Int) % 29 = (y : Int) := ⟨len1 % 29, by omega⟩
    have hyl : y < 29 := by omega
    obtain ⟨SV, SO⟩ := Fp.set_vec (p := p) (y := 2 + (y : Int)) hc (by rw [← nq]; exact hpl) (by omega) (by omega)
    have FD := Lib.hid (Fp.found SV SO)
    clear SV SO nq
    have n0b : ((n_q : Int) == 0) = false := beqF (by omega)
    have n0 : (n_q : Int) ≠ 0 := by omega
    have o1 := O_q.out
    clear O_q
    obtain ⟨b, off, z, rfl, hlo, hhi, hcz, hf, -⟩ := o1.get (k := p) hpl
    have O2 := Lib.hid (o1.set hpl (2 + (y : Int)))
    have B2 := Lib.hid (B.out.setCell (p := ⟨b, off + p, none⟩) (by show w.heap.size ≤ b; have := B.out.size; omega) (.int .i64 (2 + (y : Int))))
    clear o1 B
    obtain ⟨ys, hys⟩ : ∃ ys, (Fp.tmk k v).set p (2 + (y : Int)) = ys := ⟨_, rfl⟩
    rw [hys] at O2 FD
    clear hys
    go_wp2
    clear hp hy hyl n0b n0 hcz hf
    go_loopw [11] (fun i wr => ∃ (j : Nat), j ≤ 31 ∧ Hid (∀ d : Nat, d < j → Fp.tchk k ys (d : Int) = 0) ∧ i = .int .i64 j ∧ Hid (Own W2.heap.size W3.heap.size wr (some ⟨b, off, none⟩) n_q c_q ys) ∧ Hid (Below w.heap.size w wr)) (fun i _ => 31 - (intOf i).toNat)
    case atStart => exact ⟨0, by omega, fun d hd => by omega, rfl, O2.out, B2.out⟩
    case round =>
      clear O2 B2
      obtain ⟨j, hj, T, rfl, O_q, B⟩ := hrel
      by_cases hjt : j < 31
      · skip
        by_cases hq : Fp.tchk k ys (j : Int) = 0
        · have T2 : Hid (∀ d : Nat, d < j + 1 → Fp.tchk k ys (d : Int) = 0) := fun d hd => by
            by_cases e : d = j
            · subst e; exact hq
            · exact T.out d (by omega)
          go_wp2_with fail
          refine (impl_TypeCheck _ _ _ _ _ _ _ O_q.out.sl).mono ?_
          rintro e W7 hd
          obtain ⟨rfl, b_d⟩ := hd.below
          have Z_W7 : wr.heap.size ≤ W7.heap.size := b_d.size
          clear hd
          replace O_q := Lib.hid (O_q.out.below b_d)
          replace B := Lib.hid (B.out.trans (b_d.mono B.out.size))
          clear b_d
          rw [hq]
          go_wp2
          go_roundw
          case rel => exact ⟨j + 1, by omega, T2.out, by go_num, O_q.out, B.out⟩
          case measure => simp [intOf]; omega
        · have zb : (Fp.tchk k ys (j : Int) != 0) = true := by rw [bne, beqF hq]; rfl
          clear hq
          go_wp2_with fail
          refine (impl_TypeCheck _ _ _ _ _ _ _ O_q.out.sl).mono ?_
          rintro e W8 hd
          obtain ⟨rfl, b_d⟩ := hd.below
          have Z_W8 : wr.heap.size ≤ W8.heap.size := b_d.size
          clear hd
          replace O_q := Lib.hid (O_q.out.below b_d)
          replace B := Lib.hid (B.out.trans (b_d.mono B.out.size))
          clear b_d
          go_wp2
          go_ret
          exact ⟨rfl, B.out⟩
      · exact (FD.out fun d hd => T.out d (by omega)).elim

/-! ### THE ROW's STEP: WRITTEN OUT: LEAVE IT -/
set_option maxRecDepth 100000 in
theorem lifted (os : Os) (started : os.Started) (H : Type) (enc : TypeId × Value → H) :
    ReturnsInHanded {} Try.checked os 6 .any (Rows.fnCheckEachSpec.pre6 enc Try.prog Try.f6 Rows.fnCheckEachRow.domain false) (Rows.fnCheckEachSpec.post enc Try.prog Try.f6 false true false false) := by
  refine returnsInHanded_of_change (C := Try.checked) own started (by kernel_rfl) Try.func6
    (ChangeSpec.witness6 (enc := enc) (C := Try.checked) false ⟨#[], #[.slice none 0 0, .slice none 0 0], []⟩ 8 (by kernel_rfl) (by kernel_rfl) (by kernel_rfl) (by kernel_rfl)) ?_
  intro W base args ds gs before hval0 hW hcnd _
  have hval : ∀ (j : Nat) t v, Try.f6.params[j]? = some t → args[j]? = some v → Value.okWide Try.prog W .any base t v := hval0
  have hW' := hW
  obtain ⟨p, q, hA0, hV, rfl, hfz, hnd⟩ := hW
  have hA : DataW.TrodAll enc Try.prog W 0 (fun _ => true) true Try.f6.params.toList args.toList ds p := hA0
  rw [Try.params6] at hA hval
  obtain ⟨v0, vs0, d0, ds0, p0, q0, hargs, rfl, rfl, h0, r0⟩ := trodAll_cons hA
  obtain ⟨v1, vs1, d1, ds1, p1, q1, rfl, rfl, rfl, h1, r1⟩ := trodAll_cons r0
  obtain ⟨rfl, rfl, rfl⟩ := trodAll_nil r1
  obtain rfl : args = #[v0, v1] := by cases args; simp_all
  obtain ⟨rfl, rfl⟩ := trodVars_none hV
  obtain ⟨a0, len0, cap0, rfl⟩ := okWide_slice Try.underlying27 (hval 0 27 v0 rfl rfl)
  have k0 := h0
  have lt0 : ∀ x ∈ p0, x.block < W.heap.size := by obtain ⟨m, hm⟩ := k0; exact DataW.trod_lt m _ _ _ hm
  obtain ⟨z0, w0⟩ : ∃ zs, IsRow .u8 W a0 len0 cap0 zs := by
    obtain ⟨fuel, hf⟩ := h0
    rcases open_ints Try.underlying27 Try.underlying5 (by kernel_rfl) hf with ⟨hcs, _⟩ | ⟨x, l, c, zs, hcs, _, hl, hm, hz, _, hcell, hwz⟩
    · simp [Value.cells] at hcs
      obtain ⟨rfl, rfl, rfl⟩ := hcs
      exact ⟨[], .inl ⟨rfl, rfl, rfl, rfl⟩⟩
    · simp [Value.cells] at hcs
      obtain ⟨rfl, rfl, rfl⟩ := hcs
      exact ⟨zs, .inr ⟨_, rfl, hl, hm, by simpa using hz, hcell, hwz⟩⟩
  obtain ⟨a1, len1, cap1, rfl⟩ := okWide_slice Try.underlying27 (hval 1 27 v1 rfl rfl)
  have k1 := h1
  have lt1 : ∀ x ∈ p1, x.block < W.heap.size := by obtain ⟨m, hm⟩ := k1; exact DataW.trod_lt m _ _ _ hm
  obtain ⟨z1, w1⟩ : ∃ zs, IsRow .u8 W a1 len1 cap1 zs := by
    obtain ⟨fuel, hf⟩ := h1
    rcases open_ints Try.underlying27 Try.underlying5 (by kernel_rfl) hf with ⟨hcs, _⟩ | ⟨x, l, c, zs, hcs, _, hl, hm, hz, _, hcell, hwz⟩
    · simp [Value.cells] at hcs
      obtain ⟨rfl, rfl, rfl⟩ := hcs
      exact ⟨[], .inl ⟨rfl, rfl, rfl, rfl⟩⟩
    · simp [Value.cells] at hcs
      obtain ⟨rfl, rfl, rfl⟩ := hcs
      exact ⟨zs, .inr ⟨_, rfl, hl, hm, by simpa using hz, hcell, hwz⟩⟩
  clear hA0 hval0
  refine (walk a0 len0 cap0 z0 a1 len1 cap1 z1 W w0 w1).mono fun e W' ⟨he, bel⟩ => ?_
  subst he
  exact ⟨_, rfl, _, _, _, [], _, [], hW', trodAll_mk1 (shut_bool Try.underlying4 _), (trodAll_cons_mk (Below.trod laidOut (by kernel_rfl) (of_decide_eq_true (by kernel_rfl)) k0 bel lt0) (trodAll_cons_mk (Below.trod laidOut (by kernel_rfl) (of_decide_eq_true (by kernel_rfl)) k1 bel lt1) trodAll_mk0)), rfl, bel.frame _, fun h => by cases h⟩

theorem over : Rows.fnCheckEachRow.holds Try.pinned (OpenSpec.ofChange Rows.fnCheckEachSpec) :=
  OpenClaim.holds_of_wide 6 Try.f6 rfl rfl rfl rfl rfl rfl rfl ⟨rfl, rfl, rfl, rfl, rfl⟩ rfl rfl rfl rfl rfl (by kernel_rfl) Try.func6 (by kernel_rfl)
    (of_decide_eq_true (by kernel_rfl)) (by unfold Func.isWrapper; first | (rw [if_pos (by decide +kernel)]; kernel_rfl) | (rw [if_neg (by decide +kernel)]; exact ⟨rfl, rfl⟩))
    (fun os started H enc _ => lifted os started H enc)

/-- ████ THE STATEMENT ████ -/
theorem proved : Rows.FnCheckEachSaid := over
#print axioms proved
end Go.Proofs.Ytlfmginnffdicaa.fnCheckEach
