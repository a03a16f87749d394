/-
  The order of the seeds does not matter to noise, and what is added to counts is added to the answer: the law FnNoiseSame returns true for every two codes.
  Conditions: none but the statement's own. Proved: Rows.FnNoiseSameSaid.
-/
import Derived.Test.YtigeffgehckbpaaRows
import Derived.WalkKit
import Derived.ProofKit
import Derived.OpenShut
import Derived.ShutString
import Derived.ChangeOld
import Derived.Below
import Derived.Test.YtigeffgehckbpaaFp
import Derived.Test.YtigeffgehckbpaaRa
import Derived.Test.YtigeffgehckbpaaBase
import Derived.Test.YtigeffgehckbpaaField
import Derived.Test.YtigeffgehckbpaaDraw
import Derived.Test.YtigeffgehckbpaaSl
import Derived.Test.YtigeffgehckbpaaLw
import Derived.Test.YtigeffgehckbpaaRand
import Derived.Test.YtigeffgehckbpaaNoz
import Derived.Test.YtigeffgehckbpaaNoi
import Derived.Test.YtigeffgehckbpaaDlist
import Derived.Test.YtigeffgehckbpaaCat
import Derived.Test.YtigeffgehckbpaaNos
namespace Go.Proofs.Ytigeffgehckbpaa.fnNoiseSame
open Go.ChangeShapes Go.WideShapes Go.ChangeAt Go.RowKit
open Go.ChangeMaps (open_string shut_string)
set_option linter.unusedVariables false
set_option linter.unusedSimpArgs false

theorem own : ownKnob Try.prog.godebug = none := by kernel_rfl
theorem laidOut : laidOutB Try.prog = true := by kernel_rfl

theorem same_add {ls ms : List Int} {x z c : Int} {n : Nat} (hl : ls.length = n) (hm : ms.length = n) (h : ∀ k, k < n → ms.getD k 0 = ls.getD k 0 + c) (h0 : 0 ≤ c) (h1 : c ≤ 49) (hb : Fp.naB ls x z = true) (hs : ∀ k, k < n → ls.getD k 0 ≤ 19) : Fp.naB ms x z = true ∧ ∀ k, k < n → (Fp.naddTo ms x z n).getD k 0 = (Fp.naddTo ls x z n).getD k 0 + c := by
  obtain ⟨s1, s2, cl⟩ := Fp.naB_iff.1 hb
  have l20 := Fp.cok_len cl
  refine ⟨Fp.naB_yes s1 s2 (Fp.cok_all (by omega) fun k hk => ?_), fun k hk => ?_⟩
  · rw [hm] at hk
    have := (Fp.inC_iff _).1 (Fp.cok_get cl (k := k) (by omega))
    have := hs k hk
    rw [h k hk, Fp.inC_iff]
    omega
  · rw [Fp.naddTo_get hk, Fp.naddTo_get hk, h k hk]
    omega
set_option maxHeartbeats 1000000 in
set_option maxRecDepth 100000 in
theorem walk (a0 : Option Addr) (len0 cap0 : Nat) (z0 : List Int) (a1 : Option Addr) (len1 cap1 : Nat) (z1 : List Int) (w : World) (w0 : IsRow .u8 w a0 len0 cap0 z0) (w1 : IsRow .u8 w a1 len1 cap1 z1) :
    Calls Try.prog 12 #[.slice a0 len0 cap0, .slice a1 len1 cap1] w fun e w' => e = .returned (.bool true) ∧ Below w.heap.size w w' := by
  obtain ⟨c1, c2⟩ := w0.sizes
  obtain ⟨d1, d2⟩ := w1.sizes
  have Hb := Lib.hid (Bys.of_row w0)
  clear w0 w1
  by_cases hl : 1048576 < len0
  · go_enter Try.func12, Try.ntmps12
    go_wp2
    go_ret
    exact ⟨rfl, Below.refl _ _⟩
  by_cases hl1 : 1048576 < len1
  · go_enter Try.func12, Try.ntmps12
    go_wp2
    go_ret
    exact ⟨rfl, Below.refl _ _⟩
  have B := Lib.hid (Below.refl w.heap.size w)
  go_enter Try.func12, Try.ntmps12
  go_wp2_with fail
  refine (spec_DrawNoiseAdd a0 len0 cap0 w Hb.out c1 c2).mono ?_
  rintro e W1 ⟨a_l, n_l, c_l, ls, x, z, h_l, x1, x2, z1, z2, Z, rfl, o_l, b_d⟩
  have Z_W1 : w.heap.size ≤ W1.heap.size := b_d.size
  have O_l := Lib.hid o_l
  have L_l := Lib.hid o_l.len
  replace B := Lib.hid (B.out.trans (b_d.mono B.out.size))
  clear b_d o_l
  clear c1 c2 Hb
  have ll := Lib.hid O_l.out.len
  have e1 := eqB_self (Fp.nadd ls x z)
  have pl := Lib.hid (Fp.nadd_len ls x z)
  go_wp2_with fail
  refine (spec_NoiseAdd _ _ _ _ _ _ _ O_l.out.sl (by omega)).mono ?_
  rintro e W2 ⟨a_w, n_w, c_w, rfl, o_w, b_w⟩
  have O_w := Lib.hid o_w
  have L_w := Lib.hid o_w.len
  have Z_W2 : W1.heap.size ≤ W2.heap.size := b_w.size
  replace O_l := Lib.hid (O_l.out.below b_w)
  replace B := Lib.hid (B.out.trans (b_w.mono B.out.size))
  clear o_w b_w
  have h_w : n_w ≤ 20 := by rw [← L_w.out]; exact pl.out
  go_wp2_with fail
  refine (impl_NoiseAdd _ _ _ _ _ _ _ O_l.out.sl).mono ?_
  rintro e W3 ⟨a_g, n_g, c_g, rfl, o_g, b_g⟩
  have O_g := Lib.hid o_g
  have L_g := Lib.hid o_g.len
  have Z_W3 : W2.heap.size ≤ W3.heap.size := b_g.size
  replace O_l := Lib.hid (O_l.out.below b_g)
  replace O_w := Lib.hid (O_w.out.below b_g)
  replace B := Lib.hid (B.out.trans (b_g.mono B.out.size))
  clear o_g b_g
  have h_g : n_g ≤ 20 := by rw [← L_g.out]; exact pl.out
  cases hb : Fp.naB ls x z
  · skip
    go_wp2_with fail
    refine (laws_loInts _ _ _ _ _ _ _ _ _ O_g.out.sl O_w.out.sl (by omega) (by omega)).mono ?_
    rintro e W4 hd
    obtain ⟨rfl, b_d⟩ := hd.below
    have Z_W4 : W3.heap.size ≤ W4.heap.size := b_d.size
    clear hd
    replace O_l := Lib.hid (O_l.out.below b_d)
    replace O_w := Lib.hid (O_w.out.below b_d)
    replace O_g := Lib.hid (O_g.out.below b_d)
    replace B := Lib.hid (B.out.trans (b_d.mono B.out.size))
    clear b_d
    go_wp2_with fail
    refine (laws_loInts _ _ _ _ _ _ _ _ _ O_g.out.sl O_w.out.sl (by omega) (by omega)).mono ?_
    rintro e W5 hd
    obtain ⟨rfl, b_d⟩ := hd.below
    have Z_W5 : W4.heap.size ≤ W5.heap.size := b_d.size
    clear hd
    replace O_l := Lib.hid (O_l.out.below b_d)
    replace O_w := Lib.hid (O_w.out.below b_d)
    replace O_g := Lib.hid (O_g.out.below b_d)
    replace B := Lib.hid (B.out.trans (b_d.mono B.out.size))
    clear b_d
    go_wp2
    go_ret
    exact ⟨rfl, B.out⟩
  obtain ⟨sx, sz, cl⟩ := Fp.naB_iff.1 hb
  have NE : Hid (Fp.nadd ls x z = Fp.naddTo ls x z n_l) := by show _ = _; rw [Fp.nadd_yes hb, ll.out]
  have en : n_g = n_l := by have := L_g.out; rw [NE.out, Fp.naddTo_len] at this; omega
  subst en
  have CL : Hid (∀ k, k < n_g → 0 ≤ ls.getD k 0 ∧ ls.getD k 0 ≤ 9999) := fun k hk => (Fp.inC_iff _).1 (Fp.cok_get cl (by rw [ll.out]; exact hk))
  have HB := Lib.hid hb
  clear hb sx sz cl
  go_wp2_with fail
  refine (laws_loInts _ _ _ _ _ _ _ _ _ O_g.out.sl O_w.out.sl (by omega) (by omega)).mono ?_
  rintro e W6 hd
  obtain ⟨rfl, b_d⟩ := hd.below
  have Z_W6 : W3.heap.size ≤ W6.heap.size := b_d.size
  clear hd
  replace O_l := Lib.hid (O_l.out.below b_d)
  replace O_w := Lib.hid (O_w.out.below b_d)
  replace O_g := Lib.hid (O_g.out.below b_d)
  replace B := Lib.hid (B.out.trans (b_d.mono B.out.size))
  clear b_d
  clear O_w
  have pl2 := Lib.hid (Fp.nadd_len ls z x)
  have NC := Lib.hid (Fp.nadd_comm ls x z)
  go_wp2_with fail
  refine (impl_NoiseAdd _ _ _ _ _ _ _ O_l.out.sl).mono ?_
  rintro e W7 ⟨a_y, n_y, c_y, rfl, o_y, b_y⟩
  have O_y := Lib.hid o_y
  have L_y := Lib.hid o_y.len
  have Z_W7 : W6.heap.size ≤ W7.heap.size := b_y.size
  replace O_l := Lib.hid (O_l.out.below b_y)
  replace O_g := Lib.hid (O_g.out.below b_y)
  replace B := Lib.hid (B.out.trans (b_y.mono B.out.size))
  clear o_y b_y
  have h_y : n_y ≤ 20 := by rw [← L_y.out]; exact pl2.out
  have e2 := eqB_true (NC.out.1.symm)
  have b2 : Fp.naB ls z x = true := by rw [← NC.out.2]; exact HB.out
  rw [b2]
  clear b2
  go_wp2
  have k0 : 0 ≤ (len1 : Int) % 50 := by omega
  have k1 : (len1 : Int) % 50 ≤ 49 := by omega
  generalize (len1 : Int) % 50 = c at k0 k1 ⊢
  have OL := Lib.hid O_l.out.sl
  have OG := Lib.hid (show Sl W7 a_g n_g (Fp.naddTo ls x z n_g) by rw [← NE.out]; exact O_g.out.sl)
  have OY := Lib.hid O_y.out.sl
  have sz0 : w.heap.size ≤ W7.heap.size := B.out.size
  have OE := Lib.hid (own_empty W7.heap.size 3 W7 (Nat.le_refl _))
  have BE := Lib.hid ((Below.refl W7.heap.size W7).alloc (Nat.le_refl _) (.cells #[] 3))
  clear O_l O_g O_y
  generalize hV : W7 = V at *
  clear hV
  go_loopw [15, 16] (fun m i wr => ∃ (k cap : Nat) (p : Option Addr) (ms : List Int), k ≤ n_g ∧ m = .slice p k cap ∧ i = .int .i64 k ∧ ms.length = k ∧ Hid (∀ j, j < k → ms.getD j 0 = ls.getD j 0 + c) ∧ Hid (wr.ownsRow V.heap.size 3 1 (.slice p k cap) k (ms.map (Value.int .i64))) ∧ Hid (Below V.heap.size V wr)) (fun _ i _ => n_g - (intOf i).toNat)
  case atStart => exact ⟨0, 0, _, [], by omega, rfl, rfl, rfl, fun j hj => by omega, OE.out, BE.out⟩
  case round =>
    clear OE BE
    obtain ⟨k, cap, p, ms, hk, rfl, rfl, lm, M, O, BV⟩ := hrel
    by_cases hlt : k < n_g
    · obtain ⟨b, off, u, rfl, hc, C⟩ := (OL.out.below BV.out).get hlt
      obtain ⟨u0, u1⟩ := CL.out k hlt
      rw [← C.out] at u0 u1
      have M2 : Hid (∀ j, j < k + 1 → (ms ++ [u + c]).getD j 0 = ls.getD j 0 + c) := fun j hj => by
        by_cases e : j = k
        · subst e
          rw [← C.out]
          simp [List.getD_eq_getElem?_getD, List.getElem?_append, lm]
        · have := M.out j (by omega)
          simp only [List.getD_eq_getElem?_getD] at this ⊢
          rw [List.getElem?_append_left (by omega)]
          exact this
      have lm2 : (ms ++ [u + c]).length = k + 1 := by simp [lm]
      have hk6 : k ≤ 1048576 := by omega
      have hsz := BV.out.size
      clear M C lm
      go_wp2_with (at_builtin; (refine wpList_push int_ty rfl (.tmp 86) (.tmp 93) rfl V.heap.size rfl rfl O.out hk6 hsz ?_); intro g cap' w5 own5 bel5)
      have O5 := Lib.hid own5
      have B5 := Lib.hid (BV.out.trans bel5)
      clear own5 bel5
      go_wp2
      go_roundw
      case rel => exact ⟨k + 1, cap', _, ms ++ [u + c], by omega, rfl, by go_num, lm2, M2.out, O5.out, B5.out⟩
      case measure => simp [intOf]; omega
    · have e : k = n_g := by omega
      subst e
      have SA := Lib.hid (same_add ll.out lm M.out k0 k1 HB.out (fun j hj => (Z.out j hj).2))
      have OM := Lib.hid (Own.of_row O.out)
      have O1 := Lib.hid (OL.out.below BV.out)
      have O2 := Lib.hid (OG.out.below BV.out)
      have O3 := Lib.hid (OY.out.below BV.out)
      have B2 := Lib.hid (B.out.trans (BV.out.mono sz0))
      clear M O OL OG OY B BV
      go_wp2_with fail
      refine (impl_NoiseAdd _ _ _ _ _ _ _ OM.out.sl).mono ?_
      rintro e w6 ⟨a_t, n_t, c_t, rfl, o_t, b_t⟩
      rw [SA.out.1]
      have nt : n_t = k := by have := o_t.len; rw [Fp.nadd_yes SA.out.1, lm, Fp.naddTo_len] at this; exact this.symm
      subst nt
      have OT := Lib.hid (show Sl w6 a_t n_t (Fp.naddTo ms x z n_t) by have := o_t.sl; rw [Fp.nadd_yes SA.out.1, lm] at this; exact this)
      replace O2 := Lib.hid (O2.out.below b_t)
      replace O3 := Lib.hid (O3.out.below b_t)
      replace B2 := Lib.hid (B2.out.trans (b_t.mono B2.out.size))
      clear o_t b_t OM O1
      go_wp2
      go_loopw [19] (fun i wr => ∃ (k m : Nat), k ≤ n_t ∧ i = .int .i64 k ∧ Hid (wr = w6.drewN m)) (fun i _ => n_t - (intOf i).toNat)
      case atStart => exact ⟨0, 0, by omega, rfl, rfl⟩
      case round =>
        obtain ⟨k, m, hk, rfl, hw⟩ := hrel
        by_cases hlt : k < n_t
        · have S1 := OT.out.drewN m
          have S2 := O2.out.drewN m
          rw [← hw.out] at S1 S2
          obtain ⟨b, off, u, rfl, hc, C⟩ := S1.get hlt
          obtain ⟨b', off', v, rfl, hc', C'⟩ := S2.get hlt
          have V : u = v + c := by rw [C.out, C'.out]; exact SA.out.2 k hlt
          have vb : -2 ≤ v ∧ v ≤ 10001 := by
            rw [C'.out, Fp.naddTo_get hlt]
            have := CL.out k hlt
            have := Fp.nb_bd x z (k : Int)
            omega
          obtain ⟨v0, v1⟩ := vb
          have t1 : (v + c != v + c) = false := by simp
          subst V
          have i0 : (0 : Int) ≤ (k : Int) := by omega
          have i1 : (k : Int) < (n_t : Int) := by omega
          clear S1 S2 C C'
          go_wp2
          go_region
          all_goals
            go_wp2
            go_roundw
            case rel => exact ⟨k + 1, m + 1, by omega, by go_num, by show _ = _; rw [hw.out]; rfl⟩
            case measure => simp [intOf]; omega
        · have e : k = n_t := by omega
          subst e
          go_wp2_with fail
          have P := O3.out.drewN m
          have Q := O2.out.drewN m
          rw [← hw.out] at P Q
          rw [← NE.out] at Q
          refine (laws_loInts _ _ _ _ _ _ _ _ _ P Q (by omega) (by omega)).mono ?_
          rintro e W8 hd
          obtain ⟨rfl, b_d⟩ := hd.below
          have B3 := Lib.hid ((below_drewN B2.out m).trans (by rw [← hw.out]; exact b_d.mono (by rw [hw.out]; exact B2.out.size)))
          clear hd b_d
          go_wp2
          go_ret
          exact ⟨rfl, B3.out⟩

/-! ### THE ROW's STEP: WRITTEN OUT: LEAVE IT -/
set_option maxRecDepth 100000 in
theorem lifted (os : Os) (started : os.Started) (H : Type) (enc : TypeId × Value → H) :
    ReturnsInHanded {} Try.checked os 12 .any (Rows.fnNoiseSameSpec.pre6 enc Try.prog Try.f12 Rows.fnNoiseSameRow.domain false) (Rows.fnNoiseSameSpec.post enc Try.prog Try.f12 false true false false) := by
  refine returnsInHanded_of_change (C := Try.checked) own started (by kernel_rfl) Try.func12
    (ChangeSpec.witness6 (enc := enc) (C := Try.checked) false ⟨#[], #[.slice none 0 0, .slice none 0 0], []⟩ 8 (by kernel_rfl) (by kernel_rfl) (by kernel_rfl) (by kernel_rfl)) ?_
  intro W base args ds gs before hval0 hW hcnd _
  have hval : ∀ (j : Nat) t v, Try.f12.params[j]? = some t → args[j]? = some v → Value.okWide Try.prog W .any base t v := hval0
  have hW' := hW
  obtain ⟨p, q, hA0, hV, rfl, hfz, hnd⟩ := hW
  have hA : DataW.TrodAll enc Try.prog W 0 (fun _ => true) true Try.f12.params.toList args.toList ds p := hA0
  rw [Try.params12] at hA hval
  obtain ⟨v0, vs0, d0, ds0, p0, q0, hargs, rfl, rfl, h0, r0⟩ := trodAll_cons hA
  obtain ⟨v1, vs1, d1, ds1, p1, q1, rfl, rfl, rfl, h1, r1⟩ := trodAll_cons r0
  obtain ⟨rfl, rfl, rfl⟩ := trodAll_nil r1
  obtain rfl : args = #[v0, v1] := by cases args; simp_all
  obtain ⟨rfl, rfl⟩ := trodVars_none hV
  obtain ⟨a0, len0, cap0, rfl⟩ := okWide_slice Try.underlying33 (hval 0 33 v0 rfl rfl)
  have k0 := h0
  have lt0 : ∀ x ∈ p0, x.block < W.heap.size := by obtain ⟨m, hm⟩ := k0; exact DataW.trod_lt m _ _ _ hm
  obtain ⟨z0, w0⟩ : ∃ zs, IsRow .u8 W a0 len0 cap0 zs := by
    obtain ⟨fuel, hf⟩ := h0
    rcases open_ints Try.underlying33 Try.underlying5 (by kernel_rfl) hf with ⟨hcs, _⟩ | ⟨x, l, c, zs, hcs, _, hl, hm, hz, _, hcell, hwz⟩
    · simp [Value.cells] at hcs
      obtain ⟨rfl, rfl, rfl⟩ := hcs
      exact ⟨[], .inl ⟨rfl, rfl, rfl, rfl⟩⟩
    · simp [Value.cells] at hcs
      obtain ⟨rfl, rfl, rfl⟩ := hcs
      exact ⟨zs, .inr ⟨_, rfl, hl, hm, by simpa using hz, hcell, hwz⟩⟩
  obtain ⟨a1, len1, cap1, rfl⟩ := okWide_slice Try.underlying33 (hval 1 33 v1 rfl rfl)
  have k1 := h1
  have lt1 : ∀ x ∈ p1, x.block < W.heap.size := by obtain ⟨m, hm⟩ := k1; exact DataW.trod_lt m _ _ _ hm
  obtain ⟨z1, w1⟩ : ∃ zs, IsRow .u8 W a1 len1 cap1 zs := by
    obtain ⟨fuel, hf⟩ := h1
    rcases open_ints Try.underlying33 Try.underlying5 (by kernel_rfl) hf with ⟨hcs, _⟩ | ⟨x, l, c, zs, hcs, _, hl, hm, hz, _, hcell, hwz⟩
    · simp [Value.cells] at hcs
      obtain ⟨rfl, rfl, rfl⟩ := hcs
      exact ⟨[], .inl ⟨rfl, rfl, rfl, rfl⟩⟩
    · simp [Value.cells] at hcs
      obtain ⟨rfl, rfl, rfl⟩ := hcs
      exact ⟨zs, .inr ⟨_, rfl, hl, hm, by simpa using hz, hcell, hwz⟩⟩
  clear hA0 hval0
  refine (walk a0 len0 cap0 z0 a1 len1 cap1 z1 W w0 w1).mono fun e W' ⟨he, bel⟩ => ?_
  subst he
  exact ⟨_, rfl, _, _, _, [], _, [], hW', trodAll_mk1 (shut_bool Try.underlying4 _), (trodAll_cons_mk (Below.trod laidOut (by kernel_rfl) (of_decide_eq_true (by kernel_rfl)) k0 bel lt0) (trodAll_cons_mk (Below.trod laidOut (by kernel_rfl) (of_decide_eq_true (by kernel_rfl)) k1 bel lt1) trodAll_mk0)), rfl, bel.frame _, fun h => by cases h⟩

theorem over : Rows.fnNoiseSameRow.holds Try.pinned (OpenSpec.ofChange Rows.fnNoiseSameSpec) :=
  OpenClaim.holds_of_wide 12 Try.f12 rfl rfl rfl rfl rfl rfl rfl ⟨rfl, rfl, rfl, rfl, rfl⟩ rfl rfl rfl rfl rfl (by kernel_rfl) Try.func12 (by kernel_rfl)
    (of_decide_eq_true (by kernel_rfl)) (by unfold Func.isWrapper; first | (rw [if_pos (by decide +kernel)]; kernel_rfl) | (rw [if_neg (by decide +kernel)]; exact ⟨rfl, rfl⟩))
    (fun os started H enc _ => lifted os started H enc)

/-- ████ THE STATEMENT ████ -/
theorem proved : Rows.FnNoiseSameSaid := over
#print axioms proved
end Go.Proofs.Ytigeffgehckbpaa.fnNoiseSame
