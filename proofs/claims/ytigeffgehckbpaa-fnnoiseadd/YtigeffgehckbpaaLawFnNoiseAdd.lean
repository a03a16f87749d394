/-
  Each count has its own noise, within bounds: the law FnNoiseAdd returns true for every code.
  Conditions: none but the statement's own. Proved: Rows.FnNoiseAddSaid.
-/
import Derived.Test.YtigeffgehckbpaaRows
import Derived.WalkKit
import Derived.ProofKit
import Derived.OpenShut
import Derived.ShutString
import Derived.ChangeOld
import Derived.Below
import Derived.Test.YtigeffgehckbpaaFp
import Derived.Test.YtigeffgehckbpaaRa
import Derived.Test.YtigeffgehckbpaaBase
import Derived.Test.YtigeffgehckbpaaField
import Derived.Test.YtigeffgehckbpaaDraw
import Derived.Test.YtigeffgehckbpaaSl
import Derived.Test.YtigeffgehckbpaaLw
import Derived.Test.YtigeffgehckbpaaRand
import Derived.Test.YtigeffgehckbpaaNoz
import Derived.Test.YtigeffgehckbpaaNoi
import Derived.Test.YtigeffgehckbpaaDlist
import Derived.Test.YtigeffgehckbpaaCat
import Derived.Test.YtigeffgehckbpaaNos
namespace Go.Proofs.Ytigeffgehckbpaa.fnNoiseAdd
open Go.ChangeShapes Go.WideShapes Go.ChangeAt Go.RowKit
open Go.ChangeMaps (open_string shut_string)
set_option linter.unusedVariables false
set_option linter.unusedSimpArgs false

theorem own : ownKnob Try.prog.godebug = none := by kernel_rfl
theorem laidOut : laidOutB Try.prog = true := by kernel_rfl

theorem reg2_call {W0 W W' : World} {p1 p2 : Addr} {x1 x2 : Value} (h : Hid (Below W0.heap.size W0 W) ∧ W.cell? p1 = some x1 ∧ W.cell? p2 = some x2) (k : Below W.heap.size W W') :
    Hid (Below W0.heap.size W0 W') ∧ W'.cell? p1 = some x1 ∧ W'.cell? p2 = some x2 := by
  obtain ⟨h0, h1, h2⟩ := h
  exact ⟨Lib.hid (h0.out.trans (k.mono h0.out.size)), cell_later k h1, cell_later k h2⟩
set_option maxHeartbeats 1000000 in
set_option maxRecDepth 100000 in
theorem walk (a0 : Option Addr) (len0 cap0 : Nat) (z0 : List Int) (w : World) (w0 : IsRow .u8 w a0 len0 cap0 z0) :
    Calls Try.prog 10 #[.slice a0 len0 cap0] w fun e w' => e = .returned (.bool true) ∧ Below w.heap.size w w' := by
  obtain ⟨c1, c2⟩ := w0.sizes
  have Hb := Lib.hid (Bys.of_row w0)
  clear w0
  by_cases hl : 1048576 < len0
  · go_enter Try.func10, Try.ntmps10
    go_wp2
    go_ret
    exact ⟨rfl, Below.refl _ _⟩
  have B := Lib.hid (Below.refl w.heap.size w)
  go_enter Try.func10, Try.ntmps10
  go_wp2_with fail
  refine (spec_DrawNoiseAdd a0 len0 cap0 w Hb.out c1 c2).mono ?_
  rintro e W1 ⟨a_l, n_l, c_l, ls, x, z, h_l, x1, x2, z1, z2, Z, rfl, o_l, b_d⟩
  have Z_W1 : w.heap.size ≤ W1.heap.size := b_d.size
  have O_l := Lib.hid o_l
  have L_l := Lib.hid o_l.len
  replace B := Lib.hid (B.out.trans (b_d.mono B.out.size))
  clear b_d o_l
  clear c1 c2 Hb
  have ll := Lib.hid O_l.out.len
  have e1 := eqB_self (Fp.nadd ls x z)
  have pl := Lib.hid (Fp.nadd_len ls x z)
  go_wp2_with fail
  refine (spec_NoiseAdd _ _ _ _ _ _ _ O_l.out.sl (by omega)).mono ?_
  rintro e W2 ⟨a_w, n_w, c_w, rfl, o_w, b_w⟩
  have O_w := Lib.hid o_w
  have L_w := Lib.hid o_w.len
  have Z_W2 : W1.heap.size ≤ W2.heap.size := b_w.size
  replace O_l := Lib.hid (O_l.out.below b_w)
  replace B := Lib.hid (B.out.trans (b_w.mono B.out.size))
  clear o_w b_w
  have h_w : n_w ≤ 20 := by rw [← L_w.out]; exact pl.out
  go_wp2_with fail
  refine (impl_NoiseAdd _ _ _ _ _ _ _ O_l.out.sl).mono ?_
  rintro e W3 ⟨a_g, n_g, c_g, rfl, o_g, b_g⟩
  have O_g := Lib.hid o_g
  have L_g := Lib.hid o_g.len
  have Z_W3 : W2.heap.size ≤ W3.heap.size := b_g.size
  replace O_l := Lib.hid (O_l.out.below b_g)
  replace O_w := Lib.hid (O_w.out.below b_g)
  replace B := Lib.hid (B.out.trans (b_g.mono B.out.size))
  clear o_g b_g
  have h_g : n_g ≤ 20 := by rw [← L_g.out]; exact pl.out
  cases hb : Fp.naB ls x z
  · skip
    go_wp2_with fail
    refine (laws_loInts _ _ _ _ _ _ _ _ _ O_g.out.sl O_w.out.sl (by omega) (by omega)).mono ?_
    rintro e W4 hd
    obtain ⟨rfl, b_d⟩ := hd.below
    have Z_W4 : W3.heap.size ≤ W4.heap.size := b_d.size
    clear hd
    replace O_l := Lib.hid (O_l.out.below b_d)
    replace O_w := Lib.hid (O_w.out.below b_d)
    replace O_g := Lib.hid (O_g.out.below b_d)
    replace B := Lib.hid (B.out.trans (b_d.mono B.out.size))
    clear b_d
    go_wp2_with fail
    refine (laws_loInts _ _ _ _ _ _ _ _ _ O_g.out.sl O_w.out.sl (by omega) (by omega)).mono ?_
    rintro e W5 hd
    obtain ⟨rfl, b_d⟩ := hd.below
    have Z_W5 : W4.heap.size ≤ W5.heap.size := b_d.size
    clear hd
    replace O_l := Lib.hid (O_l.out.below b_d)
    replace O_w := Lib.hid (O_w.out.below b_d)
    replace O_g := Lib.hid (O_g.out.below b_d)
    replace B := Lib.hid (B.out.trans (b_d.mono B.out.size))
    clear b_d
    go_wp2
    go_ret
    exact ⟨rfl, B.out⟩
  obtain ⟨sx, sz, cl⟩ := Fp.naB_iff.1 hb
  have NE : Hid (Fp.nadd ls x z = Fp.naddTo ls x z n_l) := by show _ = _; rw [Fp.nadd_yes hb, ll.out]
  have en : n_g = n_l := by have := L_g.out; rw [NE.out, Fp.naddTo_len] at this; omega
  subst en
  have CL : Hid (∀ k, k < n_g → 0 ≤ ls.getD k 0 ∧ ls.getD k 0 ≤ 9999) := fun k hk => (Fp.inC_iff _).1 (Fp.cok_get cl (by rw [ll.out]; exact hk))
  have HB := Lib.hid hb
  clear hb sx sz cl
  go_wp2_with fail
  refine (laws_loInts _ _ _ _ _ _ _ _ _ O_g.out.sl O_w.out.sl (by omega) (by omega)).mono ?_
  rintro e W6 hd
  obtain ⟨rfl, b_d⟩ := hd.below
  have Z_W6 : W3.heap.size ≤ W6.heap.size := b_d.size
  clear hd
  replace O_l := Lib.hid (O_l.out.below b_d)
  replace O_w := Lib.hid (O_w.out.below b_d)
  replace O_g := Lib.hid (O_g.out.below b_d)
  replace B := Lib.hid (B.out.trans (b_d.mono B.out.size))
  clear b_d
  clear O_w
  go_wp2
  go_loopw [10] (fun i wr => ∃ (k : Nat), k ≤ n_g ∧ i = .int .i64 k ∧ Hid (Sl wr a_l n_g ls) ∧ Hid (Sl wr a_g n_g (Fp.naddTo ls x z n_g)) ∧ Hid (Below w.heap.size w wr)) (fun i _ => n_g - (intOf i).toNat)
  case atStart => exact ⟨0, by omega, rfl, O_l.out.sl, by rw [← NE.out]; exact O_g.out.sl, B.out⟩
  case round =>
    clear O_l O_g B
    obtain ⟨k, hk, rfl, SL, SG, B⟩ := hrel
    by_cases hlt : k < n_g
    · obtain ⟨b, off, u, rfl, hc, C⟩ := SL.out.get hlt
      obtain ⟨b', off', v, rfl, hc', C'⟩ := SG.out.get hlt
      have V : v = u + Fp.nb x z (k : Int) := by rw [C'.out, Fp.naddTo_get hlt, C.out]
      obtain ⟨u0, u1⟩ := CL.out k hlt
      rw [← C.out] at u0 u1
      obtain ⟨b0, b1⟩ := Fp.nb_bd x z (k : Int)
      have i0 : (0 : Int) ≤ (k : Int) := by omega
      have i1 : (k : Int) < (n_g : Int) := by omega
      generalize hN : Fp.nb x z (k : Int) = N at b0 b1 V
      have CN : Hid (∀ W, Calls Try.prog 18 #[.int .i64 x, .int .i64 z, .int .i64 (k : Int)] W (Bel (.int .i64 N) W)) := fun W => by have := impl_NoiseBoth x z (k : Int) W; rwa [hN] at this
      have f1 : IntKind.i64.wrap (u + N) = v := by rw [V]; exact IntWalk.i64_in _ (by omega)
      have f2 : IntKind.i64.wrap (u + 2) = u + 2 := IntWalk.i64_in _ (by omega)
      have f3 : IntKind.i64.wrap (u - 2) = u - 2 := IntWalk.i64_in _ (by omega)
      have t1 : (v != v) = false := by simp
      have t2 : decide (u + 2 < v) = false := by simp; omega
      have t3 : decide (v < u - 2) = false := by simp; omega
      have S1 := Lib.hid (show Hid (Below wr.heap.size wr wr.drew) ∧ wr.drew.cell? ⟨b, off + k, none⟩ = some (.int .i64 u) ∧ wr.drew.cell? ⟨b', off' + k, none⟩ = some (.int .i64 v) from ⟨Lib.hid (Below.refl _ _).drew, hc, hc'⟩)
      clear hN C C' V
      clear hc hc'
      go_wp2
      go_region_held3 (fun w' : World => Hid (Below wr.heap.size wr w') ∧ w'.cell? ⟨b, off + k, none⟩ = some (.int .i64 u) ∧ w'.cell? ⟨b', off' + k, none⟩ = some (.int .i64 v)) (first | exact S1.out | exact reg2_call (by assumption) b5 | assumption) (first | (go_at_call 18; refine (CN.out _).mono ?_; rintro e w5 ⟨rfl, b5⟩; have P5 := Lib.hid ((reg2_call (W0 := wr) (by assumption) b5).1.out)))
      all_goals
        replace SL := Lib.hid (SL.out.below P5.out)
        replace SG := Lib.hid (SG.out.below P5.out)
        replace B := Lib.hid (B.out.trans (P5.out.mono B.out.size))
        go_wp2
        go_roundw
        case rel => exact ⟨k + 1, by omega, by go_num, SL.out, SG.out, B.out⟩
        case measure => simp [intOf]; omega
    · have e : k = n_g := by omega
      subst e
      go_wp2
      go_ret
      exact ⟨by simp, B.out⟩

/-! ### THE ROW's STEP: WRITTEN OUT: LEAVE IT -/
set_option maxRecDepth 100000 in
theorem lifted (os : Os) (started : os.Started) (H : Type) (enc : TypeId × Value → H) :
    ReturnsInHanded {} Try.checked os 10 .any (Rows.fnNoiseAddSpec.pre6 enc Try.prog Try.f10 Rows.fnNoiseAddRow.domain false) (Rows.fnNoiseAddSpec.post enc Try.prog Try.f10 false true false false) := by
  refine returnsInHanded_of_change (C := Try.checked) own started (by kernel_rfl) Try.func10
    (ChangeSpec.witness6 (enc := enc) (C := Try.checked) false ⟨#[], #[.slice none 0 0], []⟩ 8 (by kernel_rfl) (by kernel_rfl) (by kernel_rfl) (by kernel_rfl)) ?_
  intro W base args ds gs before hval0 hW hcnd _
  have hval : ∀ (j : Nat) t v, Try.f10.params[j]? = some t → args[j]? = some v → Value.okWide Try.prog W .any base t v := hval0
  have hW' := hW
  obtain ⟨p, q, hA0, hV, rfl, hfz, hnd⟩ := hW
  have hA : DataW.TrodAll enc Try.prog W 0 (fun _ => true) true Try.f10.params.toList args.toList ds p := hA0
  rw [Try.params10] at hA hval
  obtain ⟨v0, vs0, d0, ds0, p0, q0, hargs, rfl, rfl, h0, r0⟩ := trodAll_cons hA
  obtain ⟨rfl, rfl, rfl⟩ := trodAll_nil r0
  obtain rfl : args = #[v0] := by cases args; simp_all
  obtain ⟨rfl, rfl⟩ := trodVars_none hV
  obtain ⟨a0, len0, cap0, rfl⟩ := okWide_slice Try.underlying33 (hval 0 33 v0 rfl rfl)
  have k0 := h0
  have lt0 : ∀ x ∈ p0, x.block < W.heap.size := by obtain ⟨m, hm⟩ := k0; exact DataW.trod_lt m _ _ _ hm
  obtain ⟨z0, w0⟩ : ∃ zs, IsRow .u8 W a0 len0 cap0 zs := by
    obtain ⟨fuel, hf⟩ := h0
    rcases open_ints Try.underlying33 Try.underlying5 (by kernel_rfl) hf with ⟨hcs, _⟩ | ⟨x, l, c, zs, hcs, _, hl, hm, hz, _, hcell, hwz⟩
    · simp [Value.cells] at hcs
      obtain ⟨rfl, rfl, rfl⟩ := hcs
      exact ⟨[], .inl ⟨rfl, rfl, rfl, rfl⟩⟩
    · simp [Value.cells] at hcs
      obtain ⟨rfl, rfl, rfl⟩ := hcs
      exact ⟨zs, .inr ⟨_, rfl, hl, hm, by simpa using hz, hcell, hwz⟩⟩
  clear hA0 hval0
  refine (walk a0 len0 cap0 z0 W w0).mono fun e W' ⟨he, bel⟩ => ?_
  subst he
  exact ⟨_, rfl, _, _, _, [], _, [], hW', trodAll_mk1 (shut_bool Try.underlying4 _), (trodAll_cons_mk (Below.trod laidOut (by kernel_rfl) (of_decide_eq_true (by kernel_rfl)) k0 bel lt0) trodAll_mk0), rfl, bel.frame _, fun h => by cases h⟩

theorem over : Rows.fnNoiseAddRow.holds Try.pinned (OpenSpec.ofChange Rows.fnNoiseAddSpec) :=
  OpenClaim.holds_of_wide 10 Try.f10 rfl rfl rfl rfl rfl rfl rfl ⟨rfl, rfl, rfl, rfl, rfl⟩ rfl rfl rfl rfl rfl (by kernel_rfl) Try.func10 (by kernel_rfl)
    (of_decide_eq_true (by kernel_rfl)) (by unfold Func.isWrapper; first | (rw [if_pos (by decide +kernel)]; kernel_rfl) | (rw [if_neg (by decide +kernel)]; exact ⟨rfl, rfl⟩))
    (fun os started H enc _ => lifted os started H enc)

/-- ████ THE STATEMENT ████ -/
theorem proved : Rows.FnNoiseAddSaid := over
#print axioms proved
end Go.Proofs.Ytigeffgehckbpaa.fnNoiseAdd
