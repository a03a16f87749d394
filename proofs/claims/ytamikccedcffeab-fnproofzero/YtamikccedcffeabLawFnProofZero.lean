/-
  The proof's polynomial at 1, 2 and so on hangs on the vector alone, and at 0 it is the product of what was drawn: the law FnProofZero returns true for every two codes.
  Conditions: none but the statement's own. Proved: Rows.FnProofZeroSaid.
-/
import Derived.Test.YtamikccedcffeabRows
import Derived.WalkKit
import Derived.ProofKit
import Derived.OpenShut
import Derived.ShutString
import Derived.ChangeOld
import Derived.Below
import Derived.Test.YtamikccedcffeabFp
import Derived.Test.YtamikccedcffeabBase
import Derived.Test.YtamikccedcffeabField
import Derived.Test.YtamikccedcffeabSl
import Derived.Test.YtamikccedcffeabLw
import Derived.Test.YtamikccedcffeabPm
import Derived.Test.YtamikccedcffeabShok
import Derived.Test.YtamikccedcffeabPn
import Derived.Test.YtamikccedcffeabPq
import Derived.Test.YtamikccedcffeabPr
import Derived.Test.YtamikccedcffeabPoly
import Derived.Test.YtamikccedcffeabPline
import Derived.Test.YtamikccedcffeabPmul
import Derived.Test.YtamikccedcffeabPthr
import Derived.Test.YtamikccedcffeabPths
import Derived.Test.YtamikccedcffeabTy
import Derived.Test.YtamikccedcffeabTym
import Derived.Test.YtamikccedcffeabTyn
import Derived.Test.YtamikccedcffeabTys
import Derived.Test.YtamikccedcffeabCat
import Derived.Test.YtamikccedcffeabPfp
import Derived.Test.YtamikccedcffeabPf
import Derived.Test.YtamikccedcffeabPfs
import Derived.Test.YtamikccedcffeabPft
import Derived.Test.YtamikccedcffeabPfx
import Derived.Test.YtamikccedcffeabPfi
import Derived.Test.YtamikccedcffeabPfl
import Derived.Test.YtamikccedcffeabDraw
import Derived.Test.YtamikccedcffeabDlist
import Derived.Test.YtamikccedcffeabTyd
import Derived.Test.YtamikccedcffeabPfd
namespace Go.Proofs.Ytamikccedcffeab.fnProofZero
open Go.ChangeShapes Go.WideShapes Go.ChangeAt Go.RowKit
open Go.ChangeMaps (open_string shut_string)
set_option linter.unusedVariables false
set_option linter.unusedSimpArgs false

theorem own : ownKnob Try.prog.godebug = none := by kernel_rfl
theorem laidOut : laidOutB Try.prog = true := by kernel_rfl

set_option maxHeartbeats 1000000 in
set_option maxRecDepth 100000 in
theorem walk (a0 : Option Addr) (len0 cap0 : Nat) (z0 : List Int) (a1 : Option Addr) (len1 cap1 : Nat) (z1 : List Int) (w : World) (w0 : IsRow .u8 w a0 len0 cap0 z0) (w1 : IsRow .u8 w a1 len1 cap1 z1) :
    Calls Try.prog 3 #[.slice a0 len0 cap0, .slice a1 len1 cap1] w fun e w' => e = .returned (.bool true) ∧ Below w.heap.size w w' := by
  obtain ⟨c1, c2⟩ := w0.sizes
  obtain ⟨d1, d2⟩ := w1.sizes
  have Hb := Lib.hid (Bys.of_row w0)
  clear w0 w1
  by_cases hl : 1048576 < len0
  · go_enter Try.func3, Try.ntmps3
    go_wp2
    go_ret
    exact ⟨rfl, Below.refl _ _⟩
  by_cases hl1 : 1048576 < len1
  · go_enter Try.func3, Try.ntmps3
    go_wp2
    go_ret
    exact ⟨rfl, Below.refl _ _⟩
  obtain ⟨d, D1, D2, D3⟩ := prf_desc
  have B := Lib.hid (Below.refl w.heap.size w)
  go_enter Try.func3, Try.ntmps3
  go_wp2_with fail
  refine (spec_DrawProofMake a0 len0 cap0 w Hb.out c1 c2).mono ?_
  rintro e W1 ⟨k, a_v, n_v, c_v, zs, x, y, k1, k2, l_v, x1, x2, y1, y2, rfl, o_v, b_d⟩
  have Z_W1 : w.heap.size ≤ W1.heap.size := b_d.size
  have O_v := Lib.hid o_v
  have L_v := Lib.hid o_v.len
  replace B := Lib.hid (B.out.trans (b_d.mono B.out.size))
  clear b_d o_v
  clear c1 c2 d1 d2
  have e2 := eqB_self (Fp.pH k zs x y)
  have pl := Lib.hid (Fp.pH_len k zs x y)
  go_wp2_with fail
  refine (spec_ProofMake _ _ _ _ _ _ _ _ O_v.out.sl (by omega)).mono ?_
  rintro e W2 ⟨a_w, n_w, c_w, rfl, o_w, b_w⟩
  have O_w := Lib.hid o_w
  have L_w := Lib.hid o_w.len
  have Z_W2 : W1.heap.size ≤ W2.heap.size := b_w.size
  replace O_v := Lib.hid (O_v.out.below b_w)
  replace B := Lib.hid (B.out.trans (b_w.mono B.out.size))
  clear o_w b_w
  have h_w : n_w ≤ 9 := by rw [← L_w.out]; exact pl.out
  obtain ⟨A_w, W3, hA_w, nt, hV_w, b_h, r_h, z_h⟩ := prf_hold W2 (Fp.pU k zs x y) (Fp.pV k zs x y) a_w n_w c_w 27
  have NT_w := Lib.hid nt
  have R_w := Lib.hid r_h
  have Z_W3 : W2.heap.size < W3.heap.size := z_h
  replace O_v := Lib.hid (O_v.out.below b_h)
  replace O_w := Lib.hid (O_w.out.below b_h)
  replace B := Lib.hid (B.out.trans (b_h.mono B.out.size))
  clear nt b_h r_h z_h
  go_wp2_with (first | (refine wpList_of_wp (by rfl) (wp_load_mid 27 _ rfl W2.heap.size 0 rfl (prc (Fp.pU k zs x y) (Fp.pV k zs x y) a_w n_w c_w) _ R_w.out D1 D2 D3 ?_)) | (refine wpList_of_wp (by rfl) (wp_store_mid 27 _ _ rfl W2.heap.size 0 (prc (Fp.pU k zs x y) (Fp.pV k zs x y) a_w n_w c_w).toArray rfl rfl NT_w.out D3 (prc_one _ _ _ _ _) ?_); rw [show (prc (Fp.pU k zs x y) (Fp.pV k zs x y) a_w n_w c_w).toArray.toList = prc (Fp.pU k zs x y) (Fp.pV k zs x y) a_w n_w c_w from rfl, hV_w]))
  clear hA_w hV_w NT_w
  refine (impl_ProofMake _ _ _ _ _ _ _ _ O_v.out.sl).mono ?_
  rintro e W4 ⟨a_p, n_p, c_p, rfl, o_p, b_p⟩
  have O_p := Lib.hid o_p
  have L_p := Lib.hid o_p.len
  have Z_W4 : W3.heap.size ≤ W4.heap.size := b_p.size
  replace O_v := Lib.hid (O_v.out.below b_p)
  replace O_w := Lib.hid (O_w.out.below b_p)
  replace R_w := Lib.hid (range_below R_w.out b_p (by omega))
  replace B := Lib.hid (B.out.trans (b_p.mono B.out.size))
  clear o_p b_p
  have h_p : n_p ≤ 9 := by rw [← L_p.out]; exact pl.out
  obtain ⟨A_p, W5, hA_p, nt, hV_p, b_h, r_h, z_h⟩ := prf_hold W4 (Fp.pU k zs x y) (Fp.pV k zs x y) a_p n_p c_p 27
  have NT_p := Lib.hid nt
  have R_p := Lib.hid r_h
  have Z_W5 : W4.heap.size < W5.heap.size := z_h
  replace O_v := Lib.hid (O_v.out.below b_h)
  replace O_w := Lib.hid (O_w.out.below b_h)
  replace O_p := Lib.hid (O_p.out.below b_h)
  replace R_w := Lib.hid (range_below R_w.out b_h (by omega))
  replace B := Lib.hid (B.out.trans (b_h.mono B.out.size))
  clear nt b_h r_h z_h
  go_wp2_with (first | (refine wpList_of_wp (by rfl) (wp_load_mid 27 _ rfl W2.heap.size 0 rfl (prc (Fp.pU k zs x y) (Fp.pV k zs x y) a_w n_w c_w) _ R_w.out D1 D2 D3 ?_)) | (refine wpList_of_wp (by rfl) (wp_load_mid 27 _ rfl W4.heap.size 0 rfl (prc (Fp.pU k zs x y) (Fp.pV k zs x y) a_p n_p c_p) _ R_p.out D1 D2 D3 ?_)) | (refine wpList_of_wp (by rfl) (wp_store_mid 27 _ _ rfl W4.heap.size 0 (prc (Fp.pU k zs x y) (Fp.pV k zs x y) a_p n_p c_p).toArray rfl rfl NT_p.out D3 (prc_one _ _ _ _ _) ?_); rw [show (prc (Fp.pU k zs x y) (Fp.pV k zs x y) a_p n_p c_p).toArray.toList = prc (Fp.pU k zs x y) (Fp.pV k zs x y) a_p n_p c_p from rfl, hV_p]))
  clear hA_p hV_p NT_p
  refine (laws_loProof _ _ _ _ _ _ _ _ _ _ _ _ _ O_p.out.sl O_w.out.sl rfl rfl (by omega) (by omega)).mono ?_
  rintro e W6 hd
  obtain ⟨rfl, b_d⟩ := hd.below
  have Z_W6 : W5.heap.size ≤ W6.heap.size := b_d.size
  clear hd
  replace O_v := Lib.hid (O_v.out.below b_d)
  replace O_w := Lib.hid (O_w.out.below b_d)
  replace O_p := Lib.hid (O_p.out.below b_d)
  replace R_w := Lib.hid (range_below R_w.out b_d (by omega))
  replace R_p := Lib.hid (range_below R_p.out b_d (by omega))
  replace B := Lib.hid (B.out.trans (b_d.mono B.out.size))
  clear b_d
  cases hc : Fp.pcan k zs x y
  · skip
    go_wp2_with (first | (refine wpList_of_wp (by rfl) (wp_load_mid 27 _ rfl W2.heap.size 0 rfl (prc (Fp.pU k zs x y) (Fp.pV k zs x y) a_w n_w c_w) _ R_w.out D1 D2 D3 ?_)) | (refine wpList_of_wp (by rfl) (wp_load_mid 27 _ rfl W4.heap.size 0 rfl (prc (Fp.pU k zs x y) (Fp.pV k zs x y) a_p n_p c_p) _ R_p.out D1 D2 D3 ?_)))
    refine (laws_loProof _ _ _ _ _ _ _ _ _ _ _ _ _ O_p.out.sl O_w.out.sl rfl rfl (by omega) (by omega)).mono ?_
    rintro e W7 hd
    obtain ⟨rfl, b_d⟩ := hd.below
    have Z_W7 : W6.heap.size ≤ W7.heap.size := b_d.size
    clear hd
    replace O_v := Lib.hid (O_v.out.below b_d)
    replace O_w := Lib.hid (O_w.out.below b_d)
    replace O_p := Lib.hid (O_p.out.below b_d)
    replace R_w := Lib.hid (range_below R_w.out b_d (by omega))
    replace R_p := Lib.hid (range_below R_p.out b_d (by omega))
    replace B := Lib.hid (B.out.trans (b_d.mono B.out.size))
    clear b_d
    go_wp2
    go_ret
    exact ⟨rfl, B.out⟩
  · skip
    obtain ⟨hv, hx, hy⟩ := Fp.pcan_iff.1 hc
    have h4 := Fp.tvec_len hv
    have lv := L_v.out
    go_wp2_with (first | (refine wpList_of_wp (by rfl) (wp_load_mid 27 _ rfl W2.heap.size 0 rfl (prc (Fp.pU k zs x y) (Fp.pV k zs x y) a_w n_w c_w) _ R_w.out D1 D2 D3 ?_)) | (refine wpList_of_wp (by rfl) (wp_load_mid 27 _ rfl W4.heap.size 0 rfl (prc (Fp.pU k zs x y) (Fp.pV k zs x y) a_p n_p c_p) _ R_p.out D1 D2 D3 ?_)))
    refine (laws_loNumI _ _ (by omega) (by omega)).mono ?_
    rintro e w' ⟨rfl, rfl⟩
    clear e2
    go_wp2_with (first | (refine wpList_of_wp (by rfl) (wp_load_mid 27 _ rfl W2.heap.size 0 rfl (prc (Fp.pU k zs x y) (Fp.pV k zs x y) a_w n_w c_w) _ R_w.out D1 D2 D3 ?_)) | (refine wpList_of_wp (by rfl) (wp_load_mid 27 _ rfl W4.heap.size 0 rfl (prc (Fp.pU k zs x y) (Fp.pV k zs x y) a_p n_p c_p) _ R_p.out D1 D2 D3 ?_)))
    refine (laws_loNumI _ _ (by omega) (by omega)).mono ?_
    rintro e w' ⟨rfl, rfl⟩
    obtain ⟨A, hA⟩ : ∃ A : Int, (len1 : Int) % 31 = A := ⟨_, rfl⟩
    obtain ⟨C, hC⟩ : ∃ C : Int, ((len1 : Int) + 4) % 31 = C := ⟨_, rfl⟩
    have okA : Fp.ok A = true := by rw [← hA]; exact Fp.emod_ok _
    have okC : Fp.ok C = true := by rw [← hC]; exact Fp.emod_ok _
    rw [hA, hC]
    have hc2 : Fp.pcan k zs A C = true := Fp.pcan_iff.2 ⟨hv, okA, okC⟩
    go_wp2_with (first | (refine wpList_of_wp (by rfl) (wp_load_mid 27 _ rfl W2.heap.size 0 rfl (prc (Fp.pU k zs x y) (Fp.pV k zs x y) a_w n_w c_w) _ R_w.out D1 D2 D3 ?_)) | (refine wpList_of_wp (by rfl) (wp_load_mid 27 _ rfl W4.heap.size 0 rfl (prc (Fp.pU k zs x y) (Fp.pV k zs x y) a_p n_p c_p) _ R_p.out D1 D2 D3 ?_)))
    refine (impl_ProofMake _ _ _ _ _ _ _ _ O_v.out.sl).mono ?_
    rintro e W8 ⟨a_q, n_q, c_q, rfl, o_q, b_q⟩
    have O_q := Lib.hid o_q
    have L_q := Lib.hid o_q.len
    have Z_W8 : W6.heap.size ≤ W8.heap.size := b_q.size
    replace O_v := Lib.hid (O_v.out.below b_q)
    replace O_w := Lib.hid (O_w.out.below b_q)
    replace O_p := Lib.hid (O_p.out.below b_q)
    replace R_w := Lib.hid (range_below R_w.out b_q (by omega))
    replace R_p := Lib.hid (range_below R_p.out b_q (by omega))
    replace B := Lib.hid (B.out.trans (b_q.mono B.out.size))
    clear o_q b_q
    have eq1 := Fp.pH_yes hc
    have eq2 := Fp.pH_yes hc2
    rw [eq1.2.2] at O_p
    rw [eq2.2.2] at O_q
    clear eq1 eq2 hc hc2
    obtain ⟨A_q, W9, hA_q, nt, hV_q, b_h, r_h, z_h⟩ := prf_hold W8 (Fp.pU k zs A C) (Fp.pV k zs A C) a_q n_q c_q 27
    have NT_q := Lib.hid nt
    have R_q := Lib.hid r_h
    have Z_W9 : W8.heap.size < W9.heap.size := z_h
    replace O_v := Lib.hid (O_v.out.below b_h)
    replace O_w := Lib.hid (O_w.out.below b_h)
    replace O_p := Lib.hid (O_p.out.below b_h)
    replace O_q := Lib.hid (O_q.out.below b_h)
    replace R_w := Lib.hid (range_below R_w.out b_h (by omega))
    replace R_p := Lib.hid (range_below R_p.out b_h (by omega))
    replace B := Lib.hid (B.out.trans (b_h.mono B.out.size))
    clear nt b_h r_h z_h
    go_wp2_with (first | (refine wpList_of_wp (by rfl) (wp_load_mid 27 _ rfl W2.heap.size 0 rfl (prc (Fp.pU k zs x y) (Fp.pV k zs x y) a_w n_w c_w) _ R_w.out D1 D2 D3 ?_)) | (refine wpList_of_wp (by rfl) (wp_load_mid 27 _ rfl W4.heap.size 0 rfl (prc (Fp.pU k zs x y) (Fp.pV k zs x y) a_p n_p c_p) _ R_p.out D1 D2 D3 ?_)) | (refine wpList_of_wp (by rfl) (wp_load_mid 27 _ rfl W8.heap.size 0 rfl (prc (Fp.pU k zs A C) (Fp.pV k zs A C) a_q n_q c_q) _ R_q.out D1 D2 D3 ?_)) | (refine wpList_of_wp (by rfl) (wp_store_mid 27 _ _ rfl W8.heap.size 0 (prc (Fp.pU k zs A C) (Fp.pV k zs A C) a_q n_q c_q).toArray rfl rfl NT_q.out D3 (prc_one _ _ _ _ _) ?_); rw [show (prc (Fp.pU k zs A C) (Fp.pV k zs A C) a_q n_q c_q).toArray.toList = prc (Fp.pU k zs A C) (Fp.pV k zs A C) a_q n_q c_q from rfl, hV_q]))
    clear hA_q hV_q NT_q
    go_loopw [17] (fun i wr => ∃ j : Nat, j ≤ n_v ∧ i = .int .i64 ((j : Int) + 1) ∧ Hid (Own W3.heap.size W4.heap.size wr a_p n_p c_p (Fp.prf zs x y)) ∧ Hid (Own W6.heap.size W8.heap.size wr a_q n_q c_q (Fp.prf zs A C)) ∧ Hid (wr.rangeAt W4.heap.size 0 (prc (Fp.pU k zs x y) (Fp.pV k zs x y) a_p n_p c_p)) ∧ Hid (wr.rangeAt W8.heap.size 0 (prc (Fp.pU k zs A C) (Fp.pV k zs A C) a_q n_q c_q)) ∧ W9.heap.size ≤ wr.heap.size ∧ Hid (Below w.heap.size w wr)) (fun i _ => n_v + 1 - (intOf i).toNat)
    case atStart => exact ⟨0, by omega, rfl, O_p.out, O_q.out, R_p.out, R_q.out, Nat.le_refl _, B.out⟩
    case round =>
      clear O_v O_p O_q O_w R_p R_q R_w B
      obtain ⟨j, hj, rfl, O_p, O_q, R_p, R_q, hZ, B⟩ := hrel
      have C1 : wr.cell? ⟨W4.heap.size, 2, none⟩ = some (.slice a_p n_p c_p) := R_p.out 2 _ rfl
      have C2 : wr.cell? ⟨W8.heap.size, 2, none⟩ = some (.slice a_q n_q c_q) := R_q.out 2 _ rfl
      by_cases hlt : j < n_v
      · have E1 := Fp.prf_at1 (u := x) (w := y) h4 (i := j) (by omega)
        have E2 := Fp.prf_at1 (u := A) (w := C) h4 (i := j) (by omega)
        have tb : (Fp.at_ (Fp.prf zs A C) ((j : Int) + 1) != Fp.at_ (Fp.prf zs x y) ((j : Int) + 1)) = false := by rw [E1, E2]; simp
        clear E1 E2
        go_wp2
        go_quiet (first | (go_at_call 9; exact Calls.quiet_of (impl_PolyAt _ _ _ _ _ _ (O_q.out.sl.drewN _))) | (go_at_call 9; exact Calls.quiet_of (impl_PolyAt _ _ _ _ _ _ (O_p.out.sl.drewN _))))
        have bb : Below wr.heap.size wr (wr.drewN nq) := below_drewN (Below.refl _ _) nq
        have zz := bb.size
        replace O_p := Lib.hid (O_p.out.below bb)
        replace O_q := Lib.hid (O_q.out.below bb)
        replace R_p := Lib.hid (range_below R_p.out bb (by omega))
        replace R_q := Lib.hid (range_below R_q.out bb (by omega))
        replace B := Lib.hid (B.out.trans (bb.mono B.out.size))
        clear bb C1 C2
        go_wp2
        go_roundw
        case rel => exact ⟨j + 1, by omega, by go_num, O_p.out, O_q.out, R_p.out, R_q.out, Nat.le_trans hZ zz, B.out⟩
        case measure => simp [intOf]; omega
      · have E0 := Fp.prf_at0 (u := A) (w := C) h4
        have EM := Fp.mul_eq okA okC
        go_wp2_with fail
        refine (impl_PolyAt _ _ _ _ _ _ O_q.out.sl).mono ?_
        rintro e V2 hd
        obtain ⟨rfl, b_d⟩ := hd.below
        rw [E0]
        clear hd
        go_wp2_with (go_at_call 10; refine (impl_FieldMul _ _ _).mono ?_; rintro e w' ⟨rfl, rfl⟩; rw [EM])
        go_ret
        exact ⟨rfl, B.out.trans (b_d.mono B.out.size)⟩

/-! ### THE ROW's STEP: WRITTEN OUT: LEAVE IT -/
set_option maxRecDepth 100000 in
theorem lifted (os : Os) (started : os.Started) (H : Type) (enc : TypeId × Value → H) :
    ReturnsInHanded {} Try.checked os 3 .any (Rows.fnProofZeroSpec.pre6 enc Try.prog Try.f3 Rows.fnProofZeroRow.domain false) (Rows.fnProofZeroSpec.post enc Try.prog Try.f3 false true false false) := by
  refine returnsInHanded_of_change (C := Try.checked) own started (by kernel_rfl) Try.func3
    (ChangeSpec.witness6 (enc := enc) (C := Try.checked) false ⟨#[], #[.slice none 0 0, .slice none 0 0], []⟩ 8 (by kernel_rfl) (by kernel_rfl) (by kernel_rfl) (by kernel_rfl)) ?_
  intro W base args ds gs before hval0 hW hcnd _
  have hval : ∀ (j : Nat) t v, Try.f3.params[j]? = some t → args[j]? = some v → Value.okWide Try.prog W .any base t v := hval0
  have hW' := hW
  obtain ⟨p, q, hA0, hV, rfl, hfz, hnd⟩ := hW
  have hA : DataW.TrodAll enc Try.prog W 0 (fun _ => true) true Try.f3.params.toList args.toList ds p := hA0
  rw [Try.params3] at hA hval
  obtain ⟨v0, vs0, d0, ds0, p0, q0, hargs, rfl, rfl, h0, r0⟩ := trodAll_cons hA
  obtain ⟨v1, vs1, d1, ds1, p1, q1, rfl, rfl, rfl, h1, r1⟩ := trodAll_cons r0
  obtain ⟨rfl, rfl, rfl⟩ := trodAll_nil r1
  obtain rfl : args = #[v0, v1] := by cases args; simp_all
  obtain ⟨rfl, rfl⟩ := trodVars_none hV
  obtain ⟨a0, len0, cap0, rfl⟩ := okWide_slice Try.underlying22 (hval 0 22 v0 rfl rfl)
  have k0 := h0
  have lt0 : ∀ x ∈ p0, x.block < W.heap.size := by obtain ⟨m, hm⟩ := k0; exact DataW.trod_lt m _ _ _ hm
  obtain ⟨z0, w0⟩ : ∃ zs, IsRow .u8 W a0 len0 cap0 zs := by
    obtain ⟨fuel, hf⟩ := h0
    rcases open_ints Try.underlying22 Try.underlying5 (by kernel_rfl) hf with ⟨hcs, _⟩ | ⟨x, l, c, zs, hcs, _, hl, hm, hz, _, hcell, hwz⟩
    · simp [Value.cells] at hcs
      obtain ⟨rfl, rfl, rfl⟩ := hcs
      exact ⟨[], .inl ⟨rfl, rfl, rfl, rfl⟩⟩
    · simp [Value.cells] at hcs
      obtain ⟨rfl, rfl, rfl⟩ := hcs
      exact ⟨zs, .inr ⟨_, rfl, hl, hm, by simpa using hz, hcell, hwz⟩⟩
  obtain ⟨a1, len1, cap1, rfl⟩ := okWide_slice Try.underlying22 (hval 1 22 v1 rfl rfl)
  have k1 := h1
  have lt1 : ∀ x ∈ p1, x.block < W.heap.size := by obtain ⟨m, hm⟩ := k1; exact DataW.trod_lt m _ _ _ hm
  obtain ⟨z1, w1⟩ : ∃ zs, IsRow .u8 W a1 len1 cap1 zs := by
    obtain ⟨fuel, hf⟩ := h1
    rcases open_ints Try.underlying22 Try.underlying5 (by kernel_rfl) hf with ⟨hcs, _⟩ | ⟨x, l, c, zs, hcs, _, hl, hm, hz, _, hcell, hwz⟩
    · simp [Value.cells] at hcs
      obtain ⟨rfl, rfl, rfl⟩ := hcs
      exact ⟨[], .inl ⟨rfl, rfl, rfl, rfl⟩⟩
    · simp [Value.cells] at hcs
      obtain ⟨rfl, rfl, rfl⟩ := hcs
      exact ⟨zs, .inr ⟨_, rfl, hl, hm, by simpa using hz, hcell, hwz⟩⟩
  clear hA0 hval0
  refine (walk a0 len0 cap0 z0 a1 len1 cap1 z1 W w0 w1).mono fun e W' ⟨he, bel⟩ => ?_
  subst he
  exact ⟨_, rfl, _, _, _, [], _, [], hW', trodAll_mk1 (shut_bool Try.underlying4 _), (trodAll_cons_mk (Below.trod laidOut (by kernel_rfl) (of_decide_eq_true (by kernel_rfl)) k0 bel lt0) (trodAll_cons_mk (Below.trod laidOut (by kernel_rfl) (of_decide_eq_true (by kernel_rfl)) k1 bel lt1) trodAll_mk0)), rfl, bel.frame _, fun h => by cases h⟩

theorem over : Rows.fnProofZeroRow.holds Try.pinned (OpenSpec.ofChange Rows.fnProofZeroSpec) :=
  OpenClaim.holds_of_wide 3 Try.f3 rfl rfl rfl rfl rfl rfl rfl ⟨rfl, rfl, rfl, rfl, rfl⟩ rfl rfl rfl rfl rfl (by kernel_rfl) Try.func3 (by kernel_rfl)
    (of_decide_eq_true (by kernel_rfl)) (by unfold Func.isWrapper; first | (rw [if_pos (by decide +kernel)]; kernel_rfl) | (rw [if_neg (by decide +kernel)]; exact ⟨rfl, rfl⟩))
    (fun os started H enc _ => lifted os started H enc)

/-- ████ THE STATEMENT ████ -/
theorem proved : Rows.FnProofZeroSaid := over
#print axioms proved
end Go.Proofs.Ytamikccedcffeab.fnProofZero
