/-
  The program's ProofOk answers as the model's for every argument, and writes into none: the law FnExactProofOk returns true.
  Conditions: none but the statement's own. Proved: Rows.FnExactProofOkCardSaid.
-/
import Derived.Test.YtmfmhhopnmglcaaDoorRows
import Derived.WalkKit
import Derived.ProofKit
import Derived.OpenShut
import Derived.ShutString
import Derived.ChangeOld
import Derived.Below
import Derived.Carry
import Derived.Lib.SmallJoins
import Derived.Test.YtmfmhhopnmglcaaDoorFp
import Derived.Test.YtmfmhhopnmglcaaDoorBase
import Derived.Test.YtmfmhhopnmglcaaDoorField
import Derived.Test.YtmfmhhopnmglcaaDoorSl
import Derived.Test.YtmfmhhopnmglcaaDoorLw
import Derived.Test.YtmfmhhopnmglcaaDoorPm
import Derived.Test.YtmfmhhopnmglcaaDoorShok
import Derived.Test.YtmfmhhopnmglcaaDoorPn
import Derived.Test.YtmfmhhopnmglcaaDoorPq
import Derived.Test.YtmfmhhopnmglcaaDoorPr
import Derived.Test.YtmfmhhopnmglcaaDoorPoly
import Derived.Test.YtmfmhhopnmglcaaDoorPline
import Derived.Test.YtmfmhhopnmglcaaDoorPmul
import Derived.Test.YtmfmhhopnmglcaaDoorPthr
import Derived.Test.YtmfmhhopnmglcaaDoorPths
import Derived.Test.YtmfmhhopnmglcaaDoorTy
import Derived.Test.YtmfmhhopnmglcaaDoorTym
import Derived.Test.YtmfmhhopnmglcaaDoorTyn
import Derived.Test.YtmfmhhopnmglcaaDoorTys
import Derived.Test.YtmfmhhopnmglcaaDoorCat
import Derived.Test.YtmfmhhopnmglcaaDoorPfp
import Derived.Test.YtmfmhhopnmglcaaDoorPf
import Derived.Test.YtmfmhhopnmglcaaDoorPfs
import Derived.Test.YtmfmhhopnmglcaaDoorPft
import Derived.Test.YtmfmhhopnmglcaaDoorPfx
import Derived.Test.YtmfmhhopnmglcaaDoorPfi
import Derived.Test.YtmfmhhopnmglcaaDoorPfl
import Derived.Test.YtmfmhhopnmglcaaDoorDraw
import Derived.Test.YtmfmhhopnmglcaaDoorDlist
import Derived.Test.YtmfmhhopnmglcaaDoorTyd
import Derived.Test.YtmfmhhopnmglcaaDoorScl
import Derived.Test.YtmfmhhopnmglcaaDoorEis
import Derived.Test.YtmfmhhopnmglcaaDoorPfw
import Derived.Test.YtmfmhhopnmglcaaDoorPfz
import Derived.Test.YtmfmhhopnmglcaaDoorPfc
import Derived.Test.YtmfmhhopnmglcaaDoorPfk
import Derived.Test.YtmfmhhopnmglcaaDoorPfm
import Derived.Test.YtmfmhhopnmglcaaDoorPfy
import Derived.Test.YtmfmhhopnmglcaaDoorPfv
import Derived.Test.YtmfmhhopnmglcaaDoorPfh
import Derived.Test.YtmfmhhopnmglcaaDoorDr
import Derived.Test.YtmfmhhopnmglcaaDoorDr
import Derived.Test.YtmfmhhopnmglcaaDoorTie
import Derived.Test.YtmfmhhopnmglcaaDoorCards
import Derived.SevenTiedAt
namespace Go.Proofs.YtmfmhhopnmglcaaDoor.fnExactProofOk
open Go.ChangeShapes Go.WideShapes Go.ChangeAt Go.RowKit
open Go.ChangeMaps (open_string shut_string)
set_option linter.unusedVariables false
set_option linter.unusedSimpArgs false

theorem own : ownKnob Tryd.prog.godebug = none := by kernel_rfl
theorem laidOut : laidOutB Tryd.prog = true := by kernel_rfl

set_option maxHeartbeats 1000000 in
set_option maxRecDepth 100000 in
theorem walk (a0 : Int) (a1 : Option Addr) (len1 cap1 : Nat) (z1 : List Int) (a2_0 : Int) (a2_1 : Int) (a2_2 : Option Addr) (len2_2 cap2_2 : Nat) (z2_2 : List Int) (w : World) (w0 : (Lit.int .i64 a0).wf = true) (w1 : IsRow .i64 w a1 len1 cap1 z1) (w2_0 : (Lit.int .i64 a2_0).wf = true) (w2_1 : (Lit.int .i64 a2_1).wf = true) (w2_2 : IsRow .i64 w a2_2 len2_2 cap2_2 z2_2) (ea : Addr) (he : Err w ea) :
    Calls Tryd.prog 3 #[.int .i64 a0, .slice a1 len1 cap1, .agg #[.int .i64 a2_0, .int .i64 a2_1, .slice a2_2 len2_2 cap2_2]] w fun e w' => e = .returned (.bool true) ∧ Below w.heap.size w w' := by
  by_cases hl : 1048576 < len1
  · go_enter Tryd.func3, Tryd.ntmps3
    go_wp2
    go_ret
    exact ⟨rfl, (Below.refl _ _).alloc (Nat.le_refl _) _⟩
  have S0 := Lib.hid (Sl.of_row w1)
  have S1 := Lib.hid (Sl.of_row w2_2)
  have L0 := Lib.hid S0.out.len
  have L1 := Lib.hid S1.out.len
  have hm2 := Lib.hid (Nat.le_trans w2_2.sizes.1 w2_2.sizes.2)
  clear w0 w1 w2_0 w2_1 w2_2
  generalize List.take len1 z1 = zs at S0 L0
  generalize List.take len2_2 z2_2 = hs at S1 L1
  obtain ⟨d, D1, D2, D3⟩ := prf_desc
  obtain ⟨d', E1, E2, E3⟩ := prf_descL
  have HE := Lib.hid he
  clear he
  have B := Lib.hid (Below.refl w.heap.size w)
  obtain ⟨V0, hw_b, z_h, b_h, t_h⟩ := prf_boxL w (a2_0) (a2_1) a2_2 len2_2 cap2_2 24
  have R_b := Lib.hid t_h.range
  have Z_V0 : w.heap.size < V0.heap.size := by omega
  replace B := Lib.hid (B.out.trans (b_h.mono B.out.size))
  clear b_h t_h z_h
  by_cases hq : 1048576 < len2_2
  · have S := Lib.hid (laws_szProof a2_0 a2_1 a2_2 len2_2 cap2_2 1048576 V0 (by omega) (by omega) (by have := hm2.out; omega))
    rw [show max (-1) (1048576 - (len2_2 : Int)) = -1 by omega] at S
    go_enter Tryd.func3, Tryd.ntmps3
    go_wp2_with (first | (refine wpList_of_wp (by rfl) (wp_load_mid 24 _ rfl w.heap.size 0 rfl (prc (a2_0) (a2_1) a2_2 len2_2 cap2_2) _ R_b.out E1 E2 E3 ?_)))
    refine S.out.mono ?_
    rintro e V1 ⟨rfl, b1⟩
    have B1 := Lib.hid (B.out.trans (b1.mono B.out.size))
    clear b1
    go_wp2
    go_ret
    exact ⟨rfl, B1.out⟩
  have S := Lib.hid (laws_szProof a2_0 a2_1 a2_2 len2_2 cap2_2 1048576 V0 (by omega) (by omega) (by have := hm2.out; omega))
  rw [show max (-1) (1048576 - (len2_2 : Int)) = 1048576 - (len2_2 : Int) by omega] at S
  have hq0 : (len2_2 : Int) ≤ 1048576 := by omega
  go_enter Tryd.func3, Tryd.ntmps3
  go_wp2_with (first | (refine wpList_of_wp (by rfl) (wp_load_mid 24 _ rfl w.heap.size 0 rfl (prc (a2_0) (a2_1) a2_2 len2_2 cap2_2) _ R_b.out E1 E2 E3 ?_)))
  refine (S.out).mono ?_
  rintro e W1 ⟨rfl, b_d⟩
  have Z_W1 : V0.heap.size ≤ W1.heap.size := b_d.size
  replace R_b := Lib.hid (range_below R_b.out b_d (by omega))
  replace B := Lib.hid (B.out.trans (b_d.mono B.out.size))
  clear b_d
  clear S hw_b
  go_wp2_with (first | (refine wpList_of_wp (by rfl) (wp_load_mid 24 _ rfl w.heap.size 0 rfl (prc (a2_0) (a2_1) a2_2 len2_2 cap2_2) _ R_b.out E1 E2 E3 ?_)))
  have C3_b : W1.cell? ⟨w.heap.size, 0, none⟩ = some (.int .i64 (a2_0)) ∧ W1.cell? ⟨w.heap.size, 1, none⟩ = some (.int .i64 (a2_1)) ∧ W1.cell? ⟨w.heap.size, 2, none⟩ = some (.slice a2_2 len2_2 cap2_2) := ⟨R_b.out 0 _ rfl, R_b.out 1 _ rfl, R_b.out 2 _ rfl⟩
  have S3 := Lib.hid (show (fun w' : World => (w'.cell? ⟨w.heap.size, 0, none⟩ = some (.int .i64 (a2_0)) ∧ w'.cell? ⟨w.heap.size, 1, none⟩ = some (.int .i64 (a2_1)) ∧ w'.cell? ⟨w.heap.size, 2, none⟩ = some (.slice a2_2 len2_2 cap2_2))) W1.drew from C3_b)
  clear C3_b
  go_region_held3 (fun w' : World => (w'.cell? ⟨w.heap.size, 0, none⟩ = some (.int .i64 (a2_0)) ∧ w'.cell? ⟨w.heap.size, 1, none⟩ = some (.int .i64 (a2_1)) ∧ w'.cell? ⟨w.heap.size, 2, none⟩ = some (.slice a2_2 len2_2 cap2_2))) (first | exact S3.out | exact three_keep (by assumption) b_k0 | exact three_keep (by assumption) b_k1 | exact three_keep (by assumption) b_k2 | assumption) (first | (go_at_call 11; refine (laws_toIntS _ _ _ _ _ ((S0.out.below B.out).below ((Below.refl W1.heap.size W1).drew)) (by omega)).mono ?_; rintro e W2 ⟨a_t, n_t, c_t, rfl, o_t, b_k0⟩) | (go_at_call 12; refine (laws_toProof _ _ _ _ _ _ _ ((S1.out.below B.out).below (Below.trans ((Below.refl W1.heap.size W1).drew) (Below.mono b_k0 (Below.size ((Below.refl W1.heap.size W1).drew))))) (by omega)).mono ?_; rintro e W3 ⟨a_p, n_p, c_p, rfl, o_p, b_k1⟩) | (go_at_call 10; refine (spec_ProofOk _ _ _ _ _ _ _ _ _ _ hs _ (o_t.sl.below b_k1) o_p.sl (by have := o_t.len; have := L0.out; omega) (by have := o_p.len; have := L1.out; omega)).mono ?_; rintro e W4 ⟨rfl, b_k2⟩))
  have b_r := (Below.trans (Below.trans (Below.trans ((Below.refl W1.heap.size W1).drew) (Below.mono b_k0 (Below.size ((Below.refl W1.heap.size W1).drew)))) (Below.mono b_k1 (Below.size (Below.trans ((Below.refl W1.heap.size W1).drew) (Below.mono b_k0 (Below.size ((Below.refl W1.heap.size W1).drew))))))) (Below.mono b_k2 (Below.size (Below.trans (Below.trans ((Below.refl W1.heap.size W1).drew) (Below.mono b_k0 (Below.size ((Below.refl W1.heap.size W1).drew)))) (Below.mono b_k1 (Below.size (Below.trans ((Below.refl W1.heap.size W1).drew) (Below.mono b_k0 (Below.size ((Below.refl W1.heap.size W1).drew))))))))))
  have Z_W4 : W1.heap.size ≤ W4.heap.size := b_r.size
  replace R_b := Lib.hid (range_below R_b.out b_r (by omega))
  replace B := Lib.hid (B.out.trans (b_r.mono B.out.size))
  have O_t := Lib.hid (Own.below (Own.below (Own.lod o_t) b_k1) b_k2)
  have L_t := Lib.hid O_t.out.len
  have O_p := Lib.hid (Own.below o_p b_k2)
  have L_p := Lib.hid O_p.out.len
  have Z_k0_W4 : W1.heap.size ≤ W2.heap.size := b_k0.size
  have Z_k1_W4 : W2.heap.size ≤ W3.heap.size := b_k1.size
  have Z_k2_W4 : W3.heap.size ≤ W4.heap.size := b_k2.size
  clear b_r S3 b_k0 b_k1 b_k2 o_t o_p
  clear O_t O_p L_t L_p
  go_wp2_with (first | (refine wpList_of_wp (by rfl) (wp_load_mid 24 _ rfl w.heap.size 0 rfl (prc (a2_0) (a2_1) a2_2 len2_2 cap2_2) _ R_b.out E1 E2 E3 ?_)))
  refine (laws_toIntS _ _ _ _ _ (S0.out.below B.out) (by omega)).mono ?_
  rintro e W5 ⟨a_x, n_x, c_x, rfl, o_x, b_x⟩
  have O_x := Lib.hid o_x
  have L_x := Lib.hid o_x.len
  have Z_W5 : W4.heap.size ≤ W5.heap.size := b_x.size
  replace R_b := Lib.hid (range_below R_b.out b_x (by omega))
  replace B := Lib.hid (B.out.trans (b_x.mono B.out.size))
  clear o_x b_x
  have h_x : n_x ≤ 1048576 := by rw [← L_x.out, L0.out]; omega
  go_wp2_with (first | (refine wpList_of_wp (by rfl) (wp_load_mid 24 _ rfl w.heap.size 0 rfl (prc (a2_0) (a2_1) a2_2 len2_2 cap2_2) _ R_b.out E1 E2 E3 ?_)))
  refine (laws_toProof _ _ _ _ _ _ _ (S1.out.below B.out) (by omega)).mono ?_
  rintro e W6 ⟨a_q, n_q, c_q, rfl, o_q, b_q⟩
  have O_q := Lib.hid o_q
  have L_q := Lib.hid o_q.len
  have Z_W6 : W5.heap.size ≤ W6.heap.size := b_q.size
  replace O_x := Lib.hid (O_x.out.below b_q)
  replace R_b := Lib.hid (range_below R_b.out b_q (by omega))
  replace B := Lib.hid (B.out.trans (b_q.mono B.out.size))
  clear o_q b_q
  have h_q : n_q ≤ 1048576 := by rw [← L_q.out, L1.out]; omega
  obtain ⟨A_q, W7, hA_q, nt, hV_q, b_h, r_h, z_h⟩ := prf_hold W6 (a2_0) (a2_1) a_q n_q c_q 28
  have NT_q := Lib.hid nt
  have R_q := Lib.hid r_h
  have Z_W7 : W6.heap.size < W7.heap.size := z_h
  replace O_x := Lib.hid (O_x.out.below b_h)
  replace O_q := Lib.hid (O_q.out.below b_h)
  replace R_b := Lib.hid (range_below R_b.out b_h (by omega))
  replace B := Lib.hid (B.out.trans (b_h.mono B.out.size))
  clear nt b_h r_h z_h
  go_wp2_with (first | (refine wpList_of_wp (by rfl) (wp_load_mid 24 _ rfl w.heap.size 0 rfl (prc (a2_0) (a2_1) a2_2 len2_2 cap2_2) _ R_b.out E1 E2 E3 ?_)) | (refine wpList_of_wp (by rfl) (wp_load_mid 28 _ rfl W6.heap.size 0 rfl (prc (a2_0) (a2_1) a_q n_q c_q) _ R_q.out D1 D2 D3 ?_)) | (refine wpList_of_wp (by rfl) (wp_store_mid 28 _ _ rfl W6.heap.size 0 (prc (a2_0) (a2_1) a_q n_q c_q).toArray rfl rfl NT_q.out D3 (prc_one _ _ _ _ _) ?_); rw [show (prc (a2_0) (a2_1) a_q n_q c_q).toArray.toList = prc (a2_0) (a2_1) a_q n_q c_q from rfl, hV_q]))
  clear hA_q hV_q NT_q
  refine (impl_ProofOk _ _ _ _ _ _ _ _ _ _ _ _ ea (HE.out.below B.out) O_x.out.sl O_q.out.sl).mono ?_
  rintro e W8 ⟨rfl, b_d⟩
  have Z_W8 : W7.heap.size ≤ W8.heap.size := b_d.size
  replace O_x := Lib.hid (O_x.out.below b_d)
  replace O_q := Lib.hid (O_q.out.below b_d)
  replace R_b := Lib.hid (range_below R_b.out b_d (by omega))
  replace R_q := Lib.hid (range_below R_q.out b_d (by omega))
  replace B := Lib.hid (B.out.trans (b_d.mono B.out.size))
  clear b_d
  have e1 := eqB_self zs
  have e2 := eqB_self hs
  go_wp2_with (first | (refine wpList_of_wp (by rfl) (wp_load_mid 24 _ rfl w.heap.size 0 rfl (prc (a2_0) (a2_1) a2_2 len2_2 cap2_2) _ R_b.out E1 E2 E3 ?_)) | (refine wpList_of_wp (by rfl) (wp_load_mid 28 _ rfl W6.heap.size 0 rfl (prc (a2_0) (a2_1) a_q n_q c_q) _ R_q.out D1 D2 D3 ?_)))
  refine (laws_toIntS _ _ _ _ _ (S0.out.below B.out) (by omega)).mono ?_
  rintro e W9 ⟨a_s, n_s, c_s, rfl, o_s, b_s⟩
  have O_s := Lib.hid o_s
  have L_s := Lib.hid o_s.len
  have Z_W9 : W8.heap.size ≤ W9.heap.size := b_s.size
  replace O_x := Lib.hid (O_x.out.below b_s)
  replace O_q := Lib.hid (O_q.out.below b_s)
  replace R_b := Lib.hid (range_below R_b.out b_s (by omega))
  replace R_q := Lib.hid (range_below R_q.out b_s (by omega))
  replace B := Lib.hid (B.out.trans (b_s.mono B.out.size))
  clear o_s b_s
  have h_s : n_s ≤ 1048576 := by rw [← L_s.out, L0.out]; omega
  go_wp2_with (first | (refine wpList_of_wp (by rfl) (wp_load_mid 24 _ rfl w.heap.size 0 rfl (prc (a2_0) (a2_1) a2_2 len2_2 cap2_2) _ R_b.out E1 E2 E3 ?_)) | (refine wpList_of_wp (by rfl) (wp_load_mid 28 _ rfl W6.heap.size 0 rfl (prc (a2_0) (a2_1) a_q n_q c_q) _ R_q.out D1 D2 D3 ?_)))
  refine (laws_eqIntS _ _ _ _ _ _ _ _ _ O_x.out.sl O_s.out.sl (by omega) (by omega)).mono ?_
  rintro e W10 hd
  obtain ⟨rfl, b_d⟩ := hd.below
  have Z_W10 : W9.heap.size ≤ W10.heap.size := b_d.size
  clear hd
  replace O_x := Lib.hid (O_x.out.below b_d)
  replace O_q := Lib.hid (O_q.out.below b_d)
  replace O_s := Lib.hid (O_s.out.below b_d)
  replace R_b := Lib.hid (range_below R_b.out b_d (by omega))
  replace R_q := Lib.hid (range_below R_q.out b_d (by omega))
  replace B := Lib.hid (B.out.trans (b_d.mono B.out.size))
  clear b_d
  clear O_s O_x
  go_wp2_with (first | (refine wpList_of_wp (by rfl) (wp_load_mid 24 _ rfl w.heap.size 0 rfl (prc (a2_0) (a2_1) a2_2 len2_2 cap2_2) _ R_b.out E1 E2 E3 ?_)) | (refine wpList_of_wp (by rfl) (wp_load_mid 28 _ rfl W6.heap.size 0 rfl (prc (a2_0) (a2_1) a_q n_q c_q) _ R_q.out D1 D2 D3 ?_)))
  have C3_q : W10.cell? ⟨W6.heap.size, 0, none⟩ = some (.int .i64 (a2_0)) ∧ W10.cell? ⟨W6.heap.size, 1, none⟩ = some (.int .i64 (a2_1)) ∧ W10.cell? ⟨W6.heap.size, 2, none⟩ = some (.slice a_q n_q c_q) := ⟨R_q.out 0 _ rfl, R_q.out 1 _ rfl, R_q.out 2 _ rfl⟩
  have C3_b : W10.cell? ⟨w.heap.size, 0, none⟩ = some (.int .i64 (a2_0)) ∧ W10.cell? ⟨w.heap.size, 1, none⟩ = some (.int .i64 (a2_1)) ∧ W10.cell? ⟨w.heap.size, 2, none⟩ = some (.slice a2_2 len2_2 cap2_2) := ⟨R_b.out 0 _ rfl, R_b.out 1 _ rfl, R_b.out 2 _ rfl⟩
  have S3 := Lib.hid (show (fun w' : World => (w'.cell? ⟨W6.heap.size, 0, none⟩ = some (.int .i64 (a2_0)) ∧ w'.cell? ⟨W6.heap.size, 1, none⟩ = some (.int .i64 (a2_1)) ∧ w'.cell? ⟨W6.heap.size, 2, none⟩ = some (.slice a_q n_q c_q)) ∧ (w'.cell? ⟨w.heap.size, 0, none⟩ = some (.int .i64 (a2_0)) ∧ w'.cell? ⟨w.heap.size, 1, none⟩ = some (.int .i64 (a2_1)) ∧ w'.cell? ⟨w.heap.size, 2, none⟩ = some (.slice a2_2 len2_2 cap2_2))) W10.drew from ⟨C3_q, C3_b⟩)
  clear C3_q C3_b
  go_region_held3 (fun w' : World => (w'.cell? ⟨W6.heap.size, 0, none⟩ = some (.int .i64 (a2_0)) ∧ w'.cell? ⟨W6.heap.size, 1, none⟩ = some (.int .i64 (a2_1)) ∧ w'.cell? ⟨W6.heap.size, 2, none⟩ = some (.slice a_q n_q c_q)) ∧ (w'.cell? ⟨w.heap.size, 0, none⟩ = some (.int .i64 (a2_0)) ∧ w'.cell? ⟨w.heap.size, 1, none⟩ = some (.int .i64 (a2_1)) ∧ w'.cell? ⟨w.heap.size, 2, none⟩ = some (.slice a2_2 len2_2 cap2_2))) (first | exact S3.out | exact three_keep2 (by assumption) b_k0 | exact three_keep2 (by assumption) b_k1 | assumption) (first | (go_at_call 12; refine (laws_toProof _ _ _ _ _ _ _ ((S1.out.below B.out).below ((Below.refl W10.heap.size W10).drew)) (by omega)).mono ?_; rintro e W11 ⟨a_r, n_r, c_r, rfl, o_r, b_k0⟩) | (go_at_call 15; refine (laws_eqProof _ _ _ _ _ _ _ _ _ _ hs hs _ (O_q.out.sl.below (Below.trans ((Below.refl W10.heap.size W10).drew) (Below.mono b_k0 (Below.size ((Below.refl W10.heap.size W10).drew))))) o_r.sl rfl rfl (by omega) (by have := o_r.len; have := L1.out; omega)).mono ?_; rintro e W12 ⟨rfl, b_k1⟩))
  have b_r := (Below.trans (Below.trans ((Below.refl W10.heap.size W10).drew) (Below.mono b_k0 (Below.size ((Below.refl W10.heap.size W10).drew)))) (Below.mono b_k1 (Below.size (Below.trans ((Below.refl W10.heap.size W10).drew) (Below.mono b_k0 (Below.size ((Below.refl W10.heap.size W10).drew)))))))
  have Z_W12 : W10.heap.size ≤ W12.heap.size := b_r.size
  replace O_q := Lib.hid (O_q.out.below b_r)
  replace R_b := Lib.hid (range_below R_b.out b_r (by omega))
  replace R_q := Lib.hid (range_below R_q.out b_r (by omega))
  replace B := Lib.hid (B.out.trans (b_r.mono B.out.size))
  have O_r := Lib.hid (Own.below (Own.lod o_r) b_k1)
  have L_r := Lib.hid O_r.out.len
  have Z_k0_W12 : W10.heap.size ≤ W11.heap.size := b_k0.size
  have Z_k1_W12 : W11.heap.size ≤ W12.heap.size := b_k1.size
  clear b_r S3 b_k0 b_k1 o_r
  go_wp2
  go_ret
  exact ⟨rfl, B.out⟩

/-! ### THE ROW's STEP: WRITTEN OUT: LEAVE IT -/
set_option maxRecDepth 100000 in
theorem lifted (os : Os) (started : os.Started) (H : Type) (enc : TypeId × Value → H) :
    ReturnsInHanded {} Tryd.checked os 3 .any (fun w args => (Rows.fnExactProofOkSpec.pre enc Tryd.prog Tryd.f3 [] false w args ∧ laidMetH Tryd.prog laid1 w) ∧ sizedMet enc Tryd.prog Tryd.f3 (OpenSpec.ofChange Rows.fnExactProofOkSpec) false w args) (Rows.fnExactProofOkSpec.post enc Tryd.prog Tryd.f3 false true false false) := by
  refine returnsInHanded_of_change_and (C := Tryd.checked) (X := fun w _ => laidMetH Tryd.prog laid1 w) (fun _ _ _ hh h => h.of_heap hh) own started (by kernel_rfl) Tryd.func3
    (ChangeSpec.witness_shaped (enc := enc) (C := Tryd.checked) (os := os) (X := fun w _ => laidMetH Tryd.prog laid1 w) false (World.doorLaid Tryd.prog 28 os) #[.int .i64 0, .slice none 0 0, .agg #[.int .i64 0, .int .i64 0, .slice none 0 0]] 8 rfl (World.shaped_of_RefB (by kernel_rfl) (by kernel_rfl)) (by kernel_rfl) (by kernel_rfl) (by kernel_rfl) (dr_met os _)) ?_
  intro W base args ds gs before hval0 hW _ _ hL _
  have hval : ∀ (j : Nat) t v, Tryd.f3.params[j]? = some t → args[j]? = some v → Value.okWide Tryd.prog W .any base t v := hval0
  have hW' := hW
  obtain ⟨p, q, hA0, hV, rfl, hfz, hnd⟩ := hW
  have hA : DataW.TrodAll enc Tryd.prog W 0 (fun _ => true) true Tryd.f3.params.toList args.toList ds p := hA0
  rw [Tryd.params3] at hA hval
  obtain ⟨v0, vs0, d0, ds0, p0, q0, hargs, rfl, rfl, h0, r0⟩ := trodAll_cons hA
  obtain ⟨v1, vs1, d1, ds1, p1, q1, rfl, rfl, rfl, h1, r1⟩ := trodAll_cons r0
  obtain ⟨v2, vs2, d2, ds2, p2, q2, rfl, rfl, rfl, h2, r2⟩ := trodAll_cons r1
  obtain ⟨rfl, rfl, rfl⟩ := trodAll_nil r2
  obtain rfl : args = #[v0, v1, v2] := by cases args; simp_all
  obtain ⟨ea, hv, he⟩ := dr_err hL
  have hV' : DataW.TrodVars enc Tryd.prog W (fun _ => true) [errName] gs q := hV
  obtain ⟨rfl, rfl⟩ := hV'.unique (dr_read enc hv _)
  obtain ⟨a0, rfl, rfl, rfl, w0⟩ := open_int Tryd.underlying3 (hval 0 3 v0 rfl rfl) h0
  have k1 := h1
  have lt1 : ∀ x ∈ p1, x.block < W.heap.size := by obtain ⟨m, hm⟩ := k1; exact DataW.trod_lt m _ _ _ hm
  obtain ⟨a1, len1, cap1, rfl⟩ := okWide_slice Tryd.underlying22 (hval 1 22 v1 rfl rfl)
  obtain ⟨z1, w1⟩ : ∃ zs, IsRow .i64 W a1 len1 cap1 zs := by
    obtain ⟨fuel, hf⟩ := h1
    rcases open_ints Tryd.underlying22 Tryd.underlying3 (by kernel_rfl) hf with ⟨hcs, _⟩ | ⟨x, l, c, zs, hcs, _, hl, hm, hz, _, hcell, hwz⟩
    · simp [Value.cells] at hcs
      obtain ⟨rfl, rfl, rfl⟩ := hcs
      exact ⟨[], .inl ⟨rfl, rfl, rfl, rfl⟩⟩
    · simp [Value.cells] at hcs
      obtain ⟨rfl, rfl, rfl⟩ := hcs
      exact ⟨zs, .inr ⟨_, rfl, hl, hm, by simpa using hz, hcell, hwz⟩⟩
  have k2 := h2
  have lt2 : ∀ x ∈ p2, x.block < W.heap.size := by obtain ⟨m, hm⟩ := k2; exact DataW.trod_lt m _ _ _ hm
  obtain ⟨c2_0, c2_1, c2_2, y2_0, y2_1, y2_2, m2, hv2, -, -, g2_0, g2_1, g2_2⟩ := Go.Joins.open_agg3 Tryd.underlying24 (by kernel_rfl) (by kernel_rfl) (hval 2 24 v2 rfl rfl) h2
  obtain ⟨a2_0, e2_0, -, w2_0⟩ := DataW.trod_int Tryd.underlying3 g2_0
  obtain rfl : c2_0 = .int .i64 a2_0 := by simpa using e2_0
  obtain ⟨a2_1, e2_1, -, w2_1⟩ := DataW.trod_int Tryd.underlying3 g2_1
  obtain rfl : c2_1 = .int .i64 a2_1 := by simpa using e2_1
  obtain ⟨a2_2, len2_2, cap2_2, z2_2, e2_2, w2_2⟩ : ∃ a l c zs, c2_2 = .slice a l c ∧ IsRow .i64 W a l c zs := by
    rcases open_ints Tryd.underlying22 Tryd.underlying3 (by kernel_rfl) g2_2 with ⟨hcs, _⟩ | ⟨x, l, c, zs, hcs, _, hl, hm, hz, _, hcell, hwz⟩
    · exact ⟨none, 0, 0, [], by simpa using hcs, .inl ⟨rfl, rfl, rfl, rfl⟩⟩
    · exact ⟨some x, l, c, zs, by simpa using hcs, .inr ⟨_, rfl, hl, hm, by simpa using hz, hcell, hwz⟩⟩
  subst e2_2
  subst hv2
  clear hA0 hval0
  refine (walk a0 a1 len1 cap1 z1 a2_0 a2_1 a2_2 len2_2 cap2_2 z2_2 W w0 w1 w2_0 w2_1 w2_2 ea he).mono fun e W' ⟨hr, bel⟩ => ?_
  subst hr
  exact ⟨_, rfl, _, _, _, [], _, [.cell errNum 0], hW', trodAll_mk1 (shut_bool Tryd.underlying4 _), (trodAll_cons_mk (shut_int Tryd.underlying3 w0) (trodAll_cons_mk (Below.trod laidOut (by kernel_rfl) (of_decide_eq_true (by kernel_rfl)) k1 bel lt1) (trodAll_cons_mk (Below.trod laidOut (by kernel_rfl) (of_decide_eq_true (by kernel_rfl)) k2 bel lt2) trodAll_mk0))), dr_read enc (dr_var hv bel) _, bel.frame _, fun h => by cases h⟩

theorem over : Rows.fnExactProofOkRow.holds Tryd.pinned (OpenSpec.ofChange Rows.fnExactProofOkSpec) :=
  OpenClaim.holds_of_wide 3 Tryd.f3 rfl rfl rfl rfl rfl rfl rfl ⟨rfl, rfl, rfl, rfl, rfl⟩ rfl rfl rfl rfl rfl (by kernel_rfl) Tryd.func3 (by kernel_rfl)
    (of_decide_eq_true (by kernel_rfl)) (by unfold Func.isWrapper; first | (rw [if_pos (by decide +kernel)]; kernel_rfl) | (rw [if_neg (by decide +kernel)]; exact ⟨rfl, rfl⟩))
    (fun os started H enc _ => lifted os started H enc)

/-- ████ THE STATEMENT ████ -/
theorem proved : Rows.FnExactProofOkCardSaid :=
  Claim7.holds_tied_plain_at .later [] [.sentinel] true (true, "35e9714a966987399509751047381904ed7b4bef9b6de213f9f4f26ec5229dc5") true
    over (fun _ h => by cases h) (by kernel_rfl) (fun _ h => by cases h) fnExactProofOk_row_tie rfl ⟨rfl, rfl⟩ (by kernel_rfl) rfl
    (fun f fn hf hfn => by
      obtain rfl : f = 3 := Option.some.inj ((show Tryd.prog.funcNamed "loop.example/scrutineer/laws.FnExactProofOk" = some 3 by kernel_rfl).symm.trans hf) |>.symm
      obtain rfl : fn = Tryd.f3 := (Option.some.inj (Tryd.func3.symm.trans hfn)).symm
      exact ⟨by kernel_rfl, fun j t ht => by
        rw [Tryd.params3] at ht
        rcases j with _ | _ | _ | j
        · obtain rfl : t = 3 := by simpa using ht.symm
          exact (show Tryd.prog.wantsStandIn 3 = false by kernel_rfl)
        · obtain rfl : t = 22 := by simpa using ht.symm
          exact (show Tryd.prog.wantsStandIn 22 = false by kernel_rfl)
        · obtain rfl : t = 24 := by simpa using ht.symm
          exact (show Tryd.prog.wantsStandIn 24 = false by kernel_rfl)
        · simp at ht⟩)
    (by kernel_rfl)
#print axioms proved
end Go.Proofs.YtmfmhhopnmglcaaDoor.fnExactProofOk
