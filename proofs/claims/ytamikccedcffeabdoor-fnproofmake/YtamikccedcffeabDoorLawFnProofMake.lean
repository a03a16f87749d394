/-
  The proof's polynomial at 1, 2 and so on is each number times that number less 1, at 0 the product of what was drawn; and it is a proof just if the numbers are of a value: the law FnProofMake returns true for every code.
  Conditions: none but the statement's own. Proved: Rows.FnProofMakeCardSaid.
-/
import Derived.Test.YtamikccedcffeabDoorRows
import Derived.WalkKit
import Derived.ProofKit
import Derived.OpenShut
import Derived.ShutString
import Derived.ChangeOld
import Derived.Below
import Derived.Test.YtamikccedcffeabDoorFp
import Derived.Test.YtamikccedcffeabDoorBase
import Derived.Test.YtamikccedcffeabDoorField
import Derived.Test.YtamikccedcffeabDoorSl
import Derived.Test.YtamikccedcffeabDoorLw
import Derived.Test.YtamikccedcffeabDoorPm
import Derived.Test.YtamikccedcffeabDoorShok
import Derived.Test.YtamikccedcffeabDoorPn
import Derived.Test.YtamikccedcffeabDoorPq
import Derived.Test.YtamikccedcffeabDoorPr
import Derived.Test.YtamikccedcffeabDoorPoly
import Derived.Test.YtamikccedcffeabDoorPline
import Derived.Test.YtamikccedcffeabDoorPmul
import Derived.Test.YtamikccedcffeabDoorPthr
import Derived.Test.YtamikccedcffeabDoorPths
import Derived.Test.YtamikccedcffeabDoorTy
import Derived.Test.YtamikccedcffeabDoorTym
import Derived.Test.YtamikccedcffeabDoorTyn
import Derived.Test.YtamikccedcffeabDoorTys
import Derived.Test.YtamikccedcffeabDoorCat
import Derived.Test.YtamikccedcffeabDoorPfp
import Derived.Test.YtamikccedcffeabDoorPf
import Derived.Test.YtamikccedcffeabDoorPfs
import Derived.Test.YtamikccedcffeabDoorPft
import Derived.Test.YtamikccedcffeabDoorPfx
import Derived.Test.YtamikccedcffeabDoorPfi
import Derived.Test.YtamikccedcffeabDoorPfl
import Derived.Test.YtamikccedcffeabDoorDraw
import Derived.Test.YtamikccedcffeabDoorDlist
import Derived.Test.YtamikccedcffeabDoorTyd
import Derived.Test.YtamikccedcffeabDoorPfd
import Derived.Test.YtamikccedcffeabDoorScl
import Derived.Test.YtamikccedcffeabDoorEis
import Derived.Test.YtamikccedcffeabDoorPfw
import Derived.Test.YtamikccedcffeabDoorPfz
import Derived.Test.YtamikccedcffeabDoorDr
import Derived.Test.YtamikccedcffeabDoorDr
import Derived.Test.YtamikccedcffeabDoorTie
import Derived.Test.YtamikccedcffeabDoorCards
import Derived.SevenTiedAt
namespace Go.Proofs.YtamikccedcffeabDoor.fnProofMake
open Go.ChangeShapes Go.WideShapes Go.ChangeAt Go.RowKit
open Go.ChangeMaps (open_string shut_string)
set_option linter.unusedVariables false
set_option linter.unusedSimpArgs false

theorem own : ownKnob Tryd.prog.godebug = none := by kernel_rfl
theorem laidOut : laidOutB Tryd.prog = true := by kernel_rfl

theorem pfok_make {k : Int} {v : List Int} {x y : Int} (h : Fp.pcan k v x y = true) : Fp.pfok k v x y (Fp.prf v x y) = Fp.tok k v := by
  obtain ⟨hv, hx, hy⟩ := Fp.pcan_iff.1 h
  have w : Fp.wf v.length x y (Fp.prf v x y) = true := Fp.wf_iff.2 ⟨hx, hy, Fp.prf_len _ _ _, Fp.prf_pok (Fp.tvec_len hv)⟩
  rw [Fp.pfok, w, eqB_self]; simp
theorem mul_dif {z : Int} (hz : Fp.ok z = true) : Fp.mul z (Fp.dif z 1) = (z * (z - 1)) % 31 := by
  rw [Fp.dif_eq hz rfl, Fp.mul_eq hz (Fp.emod_ok _)]
  rw [Int.mul_emod, Int.emod_emod_of_dvd _ (by decide), ← Int.mul_emod]
set_option maxHeartbeats 1000000 in
set_option maxRecDepth 100000 in
theorem walk (a0 : Option Addr) (len0 cap0 : Nat) (z0 : List Int) (w : World) (w0 : IsRow .u8 w a0 len0 cap0 z0) (ea : Addr) (he : Err w ea) :
    Calls Tryd.prog 3 #[.slice a0 len0 cap0] w fun e w' => e = .returned (.bool true) ∧ Below w.heap.size w w' := by
  obtain ⟨c1, c2⟩ := w0.sizes
  have Hb := Lib.hid (Bys.of_row w0)
  clear w0
  by_cases hl : 1048576 < len0
  · go_enter Tryd.func3, Tryd.ntmps3
    go_wp2
    go_ret
    exact ⟨rfl, Below.refl _ _⟩
  obtain ⟨d, D1, D2, D3⟩ := prf_desc
  have HE := Lib.hid he
  clear he
  have B := Lib.hid (Below.refl w.heap.size w)
  go_enter Tryd.func3, Tryd.ntmps3
  go_wp2_with fail
  refine (spec_DrawProofMake a0 len0 cap0 w Hb.out c1 c2).mono ?_
  rintro e W1 ⟨k, a_v, n_v, c_v, zs, x, y, k1, k2, l_v, x1, x2, y1, y2, rfl, o_v, b_d⟩
  have Z_W1 : w.heap.size ≤ W1.heap.size := b_d.size
  have O_v := Lib.hid o_v
  have L_v := Lib.hid o_v.len
  replace B := Lib.hid (B.out.trans (b_d.mono B.out.size))
  clear b_d o_v
  clear c1 c2
  have e2 := eqB_self (Fp.pH k zs x y)
  have pl := Lib.hid (Fp.pH_len k zs x y)
  go_wp2_with fail
  refine (spec_ProofMake _ _ _ _ _ _ _ _ O_v.out.sl (by omega)).mono ?_
  rintro e W2 ⟨a_w, n_w, c_w, rfl, o_w, b_w⟩
  have O_w := Lib.hid o_w
  have L_w := Lib.hid o_w.len
  have Z_W2 : W1.heap.size ≤ W2.heap.size := b_w.size
  replace O_v := Lib.hid (O_v.out.below b_w)
  replace B := Lib.hid (B.out.trans (b_w.mono B.out.size))
  clear o_w b_w
  have h_w : n_w ≤ 9 := by rw [← L_w.out]; exact pl.out
  obtain ⟨A_w, W3, hA_w, nt, hV_w, b_h, r_h, z_h⟩ := prf_hold W2 (Fp.pU k zs x y) (Fp.pV k zs x y) a_w n_w c_w 27
  have NT_w := Lib.hid nt
  have R_w := Lib.hid r_h
  have Z_W3 : W2.heap.size < W3.heap.size := z_h
  replace O_v := Lib.hid (O_v.out.below b_h)
  replace O_w := Lib.hid (O_w.out.below b_h)
  replace B := Lib.hid (B.out.trans (b_h.mono B.out.size))
  clear nt b_h r_h z_h
  go_wp2_with (first | (refine wpList_of_wp (by rfl) (wp_load_mid 27 _ rfl W2.heap.size 0 rfl (prc (Fp.pU k zs x y) (Fp.pV k zs x y) a_w n_w c_w) _ R_w.out D1 D2 D3 ?_)) | (refine wpList_of_wp (by rfl) (wp_store_mid 27 _ _ rfl W2.heap.size 0 (prc (Fp.pU k zs x y) (Fp.pV k zs x y) a_w n_w c_w).toArray rfl rfl NT_w.out D3 (prc_one _ _ _ _ _) ?_); rw [show (prc (Fp.pU k zs x y) (Fp.pV k zs x y) a_w n_w c_w).toArray.toList = prc (Fp.pU k zs x y) (Fp.pV k zs x y) a_w n_w c_w from rfl, hV_w]))
  clear hA_w hV_w NT_w
  refine (impl_ProofMake _ _ _ _ _ _ _ _ O_v.out.sl).mono ?_
  rintro e W4 ⟨a_p, n_p, c_p, rfl, o_p, b_p⟩
  have O_p := Lib.hid o_p
  have L_p := Lib.hid o_p.len
  have Z_W4 : W3.heap.size ≤ W4.heap.size := b_p.size
  replace O_v := Lib.hid (O_v.out.below b_p)
  replace O_w := Lib.hid (O_w.out.below b_p)
  replace R_w := Lib.hid (range_below R_w.out b_p (by omega))
  replace B := Lib.hid (B.out.trans (b_p.mono B.out.size))
  clear o_p b_p
  have h_p : n_p ≤ 9 := by rw [← L_p.out]; exact pl.out
  obtain ⟨A_p, W5, hA_p, nt, hV_p, b_h, r_h, z_h⟩ := prf_hold W4 (Fp.pU k zs x y) (Fp.pV k zs x y) a_p n_p c_p 27
  have NT_p := Lib.hid nt
  have R_p := Lib.hid r_h
  have Z_W5 : W4.heap.size < W5.heap.size := z_h
  replace O_v := Lib.hid (O_v.out.below b_h)
  replace O_w := Lib.hid (O_w.out.below b_h)
  replace O_p := Lib.hid (O_p.out.below b_h)
  replace R_w := Lib.hid (range_below R_w.out b_h (by omega))
  replace B := Lib.hid (B.out.trans (b_h.mono B.out.size))
  clear nt b_h r_h z_h
  go_wp2_with (first | (refine wpList_of_wp (by rfl) (wp_load_mid 27 _ rfl W2.heap.size 0 rfl (prc (Fp.pU k zs x y) (Fp.pV k zs x y) a_w n_w c_w) _ R_w.out D1 D2 D3 ?_)) | (refine wpList_of_wp (by rfl) (wp_load_mid 27 _ rfl W4.heap.size 0 rfl (prc (Fp.pU k zs x y) (Fp.pV k zs x y) a_p n_p c_p) _ R_p.out D1 D2 D3 ?_)) | (refine wpList_of_wp (by rfl) (wp_store_mid 27 _ _ rfl W4.heap.size 0 (prc (Fp.pU k zs x y) (Fp.pV k zs x y) a_p n_p c_p).toArray rfl rfl NT_p.out D3 (prc_one _ _ _ _ _) ?_); rw [show (prc (Fp.pU k zs x y) (Fp.pV k zs x y) a_p n_p c_p).toArray.toList = prc (Fp.pU k zs x y) (Fp.pV k zs x y) a_p n_p c_p from rfl, hV_p]))
  clear hA_p hV_p NT_p
  refine (laws_loProof _ _ _ _ _ _ _ _ _ _ _ _ _ O_p.out.sl O_w.out.sl rfl rfl (by omega) (by omega)).mono ?_
  rintro e W6 hd
  obtain ⟨rfl, b_d⟩ := hd.below
  have Z_W6 : W5.heap.size ≤ W6.heap.size := b_d.size
  clear hd
  replace O_v := Lib.hid (O_v.out.below b_d)
  replace O_w := Lib.hid (O_w.out.below b_d)
  replace O_p := Lib.hid (O_p.out.below b_d)
  replace R_w := Lib.hid (range_below R_w.out b_d (by omega))
  replace R_p := Lib.hid (range_below R_p.out b_d (by omega))
  replace B := Lib.hid (B.out.trans (b_d.mono B.out.size))
  clear b_d
  cases hc : Fp.pcan k zs x y
  · skip
    go_wp2_with (first | (refine wpList_of_wp (by rfl) (wp_load_mid 27 _ rfl W2.heap.size 0 rfl (prc (Fp.pU k zs x y) (Fp.pV k zs x y) a_w n_w c_w) _ R_w.out D1 D2 D3 ?_)) | (refine wpList_of_wp (by rfl) (wp_load_mid 27 _ rfl W4.heap.size 0 rfl (prc (Fp.pU k zs x y) (Fp.pV k zs x y) a_p n_p c_p) _ R_p.out D1 D2 D3 ?_)))
    refine (laws_loProof _ _ _ _ _ _ _ _ _ _ _ _ _ O_p.out.sl O_w.out.sl rfl rfl (by omega) (by omega)).mono ?_
    rintro e W7 hd
    obtain ⟨rfl, b_d⟩ := hd.below
    have Z_W7 : W6.heap.size ≤ W7.heap.size := b_d.size
    clear hd
    replace O_v := Lib.hid (O_v.out.below b_d)
    replace O_w := Lib.hid (O_w.out.below b_d)
    replace O_p := Lib.hid (O_p.out.below b_d)
    replace R_w := Lib.hid (range_below R_w.out b_d (by omega))
    replace R_p := Lib.hid (range_below R_p.out b_d (by omega))
    replace B := Lib.hid (B.out.trans (b_d.mono B.out.size))
    clear b_d
    go_wp2
    go_ret
    exact ⟨rfl, B.out⟩
  · skip
    go_wp2_with (first | (refine wpList_of_wp (by rfl) (wp_load_mid 27 _ rfl W2.heap.size 0 rfl (prc (Fp.pU k zs x y) (Fp.pV k zs x y) a_w n_w c_w) _ R_w.out D1 D2 D3 ?_)) | (refine wpList_of_wp (by rfl) (wp_load_mid 27 _ rfl W4.heap.size 0 rfl (prc (Fp.pU k zs x y) (Fp.pV k zs x y) a_p n_p c_p) _ R_p.out D1 D2 D3 ?_)))
    clear e2
    obtain ⟨hv, hx, hy⟩ := Fp.pcan_iff.1 hc
    have h4 := Fp.tvec_len hv
    have lv := L_v.out
    have hso := Fp.sok_get (Fp.tvec_iff.1 hv).2.1
    have PM := Lib.hid (pfok_make hc)
    obtain ⟨q1, q2, q3⟩ := Fp.pH_yes hc
    rw [q3] at O_p L_p
    rw [q1, q2] at R_p
    have en : n_p = 2 * n_v + 1 := by rw [← L_p.out, Fp.prf_len, lv]
    have EN := Lib.hid en
    clear hc hv q1 q2 q3 en
    go_loopw [11] (fun i wr => ∃ j : Nat, j ≤ n_v ∧ i = .int .i64 (j : Int) ∧ Hid (Own W3.heap.size W4.heap.size wr a_p n_p c_p (Fp.prf zs x y)) ∧ Hid (Own w.heap.size W1.heap.size wr a_v n_v c_v zs) ∧ Hid (wr.rangeAt W4.heap.size 0 (prc x y a_p n_p c_p)) ∧ W6.heap.size ≤ wr.heap.size ∧ Hid (Below w.heap.size w wr)) (fun i _ => n_v + 1 - (intOf i).toNat)
    case atStart => exact ⟨0, by omega, rfl, O_p.out, O_v.out, R_p.out, Nat.le_refl _, B.out⟩
    case round =>
      clear O_v O_p O_w R_p R_w B
      obtain ⟨j, hj, rfl, O_p, O_v, R_p, hZ, B⟩ := hrel
      have C0 : wr.cell? ⟨W4.heap.size, 0, none⟩ = some (.int .i64 x) := R_p.out 0 _ rfl
      have C1 : wr.cell? ⟨W4.heap.size, 1, none⟩ = some (.int .i64 y) := R_p.out 1 _ rfl
      have C2 : wr.cell? ⟨W4.heap.size, 2, none⟩ = some (.slice a_p n_p c_p) := R_p.out 2 _ rfl
      by_cases hlt : j < n_v
      · obtain ⟨bb, off, z, rfl, -, -, hcz, -, hz⟩ := O_v.out.get hlt
        have hzo : Fp.ok z = true := by rw [hz.out]; exact hso j
        have E1 := Fp.prf_at1 (u := x) (w := y) h4 (i := j) (by omega)
        rw [← hz.out] at E1
        have tb : (Fp.at_ (Fp.prf zs x y) ((j : Int) + 1) != Fp.mul z (Fp.dif z 1)) = false := by rw [E1, mul_dif hzo]; simp
        have i0 : (0 : Int) ≤ (j : Int) := by omega
        have i1 : (j : Int) < (n_v : Int) := by omega
        have f1 : IntKind.i64.wrap ((j : Int) + 1) = (j : Int) + 1 := IntWalk.i64_in _ (by omega)
        clear E1 C0 C1
        go_wp2
        go_quiet (first | (go_at_call 12; exact Calls.quiet_of (impl_PolyAt _ _ _ _ _ _ (O_p.out.sl.drewN _))) | (go_at_call 13; exact Calls.quiet_of_same (quiet_l (impl_FieldMul _ _ _))) | (go_at_call 14; exact Calls.quiet_of_same (quiet_l (impl_FieldDif _ _ _))))
        have bd : Below wr.heap.size wr (wr.drewN nq) := below_drewN (Below.refl _ _) nq
        have zz := bd.size
        replace O_p := Lib.hid (O_p.out.below bd)
        replace O_v := Lib.hid (O_v.out.below bd)
        replace R_p := Lib.hid (range_below R_p.out bd (by omega))
        replace B := Lib.hid (B.out.trans (bd.mono B.out.size))
        clear bd C2
        go_wp2
        go_roundw
        case rel => exact ⟨j + 1, by omega, by go_num, O_p.out, O_v.out, R_p.out, Nat.le_trans hZ zz, B.out⟩
        case measure => simp [intOf]; omega
      · have E0 := Fp.prf_at0 (u := x) (w := y) h4
        have EM := Fp.mul_eq hx hy
        have f1 : IntKind.i64.wrap (2 * (n_v : Int)) = 2 * (n_v : Int) := IntWalk.i64_in _ (by omega)
        have f2 : IntKind.i64.wrap (2 * (n_v : Int) + 1) = 2 * (n_v : Int) + 1 := IntWalk.i64_in _ (by omega)
        have d1 : ((n_p : Int) == 2 * (n_v : Int) + 1) = true := beqT (by have := EN.out; omega)
        have SP := Lib.hid O_p.out.sl
        have SV := Lib.hid O_v.out.sl
        go_wp2_with fail
        refine (impl_PolyAt _ _ _ _ _ _ SP.out).mono ?_
        rintro e V2 hd
        obtain ⟨rfl, b_d⟩ := hd.below
        rw [E0]
        clear hd C0 C1 C2
        have zz := b_d.size
        have R2 := Lib.hid (range_below R_p.out b_d (by omega))
        have B2 := Lib.hid (B.out.trans (b_d.mono B.out.size))
        have C2 : V2.cell? ⟨W4.heap.size, 2, none⟩ = some (.slice a_p n_p c_p) := R2.out 2 _ rfl
        have SP2 := Lib.hid (SP.out.below b_d)
        have SV2 := Lib.hid (SV.out.below b_d)
        clear b_d
        go_wp2_with (first | (go_at_call 13; refine (impl_FieldMul _ _ _).mono ?_; rintro e w' ⟨rfl, rfl⟩; rw [EM]) | (refine wpList_of_wp (by rfl) (wp_load_mid 27 _ rfl W4.heap.size 0 rfl (prc x y a_p n_p c_p) _ R2.out D1 D2 D3 ?_)) | (go_at_call 15; fail))
        refine (impl_ProofOk k a_v n_v c_v zs x y a_p n_p c_p (Fp.prf zs x y) _ ea (HE.out.below B2.out) SV2.out SP2.out).mono ?_
        rintro e V3 ⟨rfl, b3⟩
        rw [PM.out]
        have B3 := Lib.hid (B2.out.trans (b3.mono B2.out.size))
        have SV3 := Lib.hid (SV2.out.below b3)
        clear b3 C2
        go_wp2_with fail
        refine (impl_TypeOk _ _ _ _ _ _ SV3.out).mono ?_
        rintro e V4 ⟨rfl, b4⟩
        have B4 := Lib.hid (B3.out.trans (b4.mono B3.out.size))
        clear b4
        cases ht : Fp.tok k zs
        all_goals
          go_wp2
          go_ret
          exact ⟨rfl, B4.out⟩

/-! ### THE ROW's STEP: WRITTEN OUT: LEAVE IT -/
set_option maxRecDepth 100000 in
theorem lifted (os : Os) (started : os.Started) (H : Type) (enc : TypeId × Value → H) :
    ReturnsInHanded {} Tryd.checked os 3 .any (fun w args => (Rows.fnProofMakeSpec.pre enc Tryd.prog Tryd.f3 [] false w args ∧ laidMetH Tryd.prog laid1 w) ∧ sizedMet enc Tryd.prog Tryd.f3 (OpenSpec.ofChange Rows.fnProofMakeSpec) false w args) (Rows.fnProofMakeSpec.post enc Tryd.prog Tryd.f3 false true false false) := by
  refine returnsInHanded_of_change_and (C := Tryd.checked) (X := fun w _ => laidMetH Tryd.prog laid1 w) (fun _ _ _ hh h => h.of_heap hh) own started (by kernel_rfl) Tryd.func3
    (ChangeSpec.witness_shaped (enc := enc) (C := Tryd.checked) (os := os) (X := fun w _ => laidMetH Tryd.prog laid1 w) false (World.doorLaid Tryd.prog 28 os) #[.slice none 0 0] 8 rfl (World.shaped_of_RefB (by kernel_rfl) (by kernel_rfl)) (by kernel_rfl) (by kernel_rfl) (by kernel_rfl) (dr_met os _)) ?_
  intro W base args ds gs before hval0 hW _ _ hL _
  have hval : ∀ (j : Nat) t v, Tryd.f3.params[j]? = some t → args[j]? = some v → Value.okWide Tryd.prog W .any base t v := hval0
  have hW' := hW
  obtain ⟨p, q, hA0, hV, rfl, hfz, hnd⟩ := hW
  have hA : DataW.TrodAll enc Tryd.prog W 0 (fun _ => true) true Tryd.f3.params.toList args.toList ds p := hA0
  rw [Tryd.params3] at hA hval
  obtain ⟨v0, vs0, d0, ds0, p0, q0, hargs, rfl, rfl, h0, r0⟩ := trodAll_cons hA
  obtain ⟨rfl, rfl, rfl⟩ := trodAll_nil r0
  obtain rfl : args = #[v0] := by cases args; simp_all
  obtain ⟨ea, hv, he⟩ := dr_err hL
  have hV' : DataW.TrodVars enc Tryd.prog W (fun _ => true) [errName] gs q := hV
  obtain ⟨rfl, rfl⟩ := hV'.unique (dr_read enc hv _)
  obtain ⟨a0, len0, cap0, rfl⟩ := okWide_slice Tryd.underlying22 (hval 0 22 v0 rfl rfl)
  have k0 := h0
  have lt0 : ∀ x ∈ p0, x.block < W.heap.size := by obtain ⟨m, hm⟩ := k0; exact DataW.trod_lt m _ _ _ hm
  obtain ⟨z0, w0⟩ : ∃ zs, IsRow .u8 W a0 len0 cap0 zs := by
    obtain ⟨fuel, hf⟩ := h0
    rcases open_ints Tryd.underlying22 Tryd.underlying5 (by kernel_rfl) hf with ⟨hcs, _⟩ | ⟨x, l, c, zs, hcs, _, hl, hm, hz, _, hcell, hwz⟩
    · simp [Value.cells] at hcs
      obtain ⟨rfl, rfl, rfl⟩ := hcs
      exact ⟨[], .inl ⟨rfl, rfl, rfl, rfl⟩⟩
    · simp [Value.cells] at hcs
      obtain ⟨rfl, rfl, rfl⟩ := hcs
      exact ⟨zs, .inr ⟨_, rfl, hl, hm, by simpa using hz, hcell, hwz⟩⟩
  clear hA0 hval0
  refine (walk a0 len0 cap0 z0 W w0 ea he).mono fun e W' ⟨hr, bel⟩ => ?_
  subst hr
  exact ⟨_, rfl, _, _, _, [], _, [.cell errNum 0], hW', trodAll_mk1 (shut_bool Tryd.underlying4 _), (trodAll_cons_mk (Below.trod laidOut (by kernel_rfl) (of_decide_eq_true (by kernel_rfl)) k0 bel lt0) trodAll_mk0), dr_read enc (dr_var hv bel) _, bel.frame _, fun h => by cases h⟩

theorem over : Rows.fnProofMakeRow.holds Tryd.pinned (OpenSpec.ofChange Rows.fnProofMakeSpec) :=
  OpenClaim.holds_of_wide 3 Tryd.f3 rfl rfl rfl rfl rfl rfl rfl ⟨rfl, rfl, rfl, rfl, rfl⟩ rfl rfl rfl rfl rfl (by kernel_rfl) Tryd.func3 (by kernel_rfl)
    (of_decide_eq_true (by kernel_rfl)) (by unfold Func.isWrapper; first | (rw [if_pos (by decide +kernel)]; kernel_rfl) | (rw [if_neg (by decide +kernel)]; exact ⟨rfl, rfl⟩))
    (fun os started H enc _ => lifted os started H enc)

/-- ████ THE STATEMENT ████ -/
theorem proved : Rows.FnProofMakeCardSaid :=
  Claim7.holds_tied_plain_at .later [] [.sentinel] true (true, "03c9dfb5184f67f35b7f7e3e4e7655f889ef5749b0ed3e4e4ef4431d005c5f59") true
    over (fun _ h => by cases h) (by kernel_rfl) (fun _ h => by cases h) fnProofMake_row_tie rfl ⟨rfl, rfl⟩ (by kernel_rfl) rfl
    (fun f fn hf hfn => by
      obtain rfl : f = 3 := Option.some.inj ((show Tryd.prog.funcNamed "loop.example/scrutineer/laws.FnProofMake" = some 3 by kernel_rfl).symm.trans hf) |>.symm
      obtain rfl : fn = Tryd.f3 := (Option.some.inj (Tryd.func3.symm.trans hfn)).symm
      exact ⟨by kernel_rfl, fun j t ht => by
        rw [Tryd.params3] at ht
        rcases j with _ | j
        · obtain rfl : t = 22 := by simpa using ht.symm
          exact (show Tryd.prog.wantsStandIn 22 = false by kernel_rfl)
        · simp at ht⟩)
    (by kernel_rfl)
#print axioms proved
end Go.Proofs.YtamikccedcffeabDoor.fnProofMake
