/-
  The list of numbers and a proof is the model's, and is cut into just these: the law FnProofAll returns true for every code.
  Conditions: none but the statement's own. Proved: Rows.FnProofAllCardSaid.
-/
import Derived.Test.YtmfmhhopnmglcaaDoorRows
import Derived.WalkKit
import Derived.ProofKit
import Derived.OpenShut
import Derived.ShutString
import Derived.ChangeOld
import Derived.Below
import Derived.Test.YtmfmhhopnmglcaaDoorFp
import Derived.Test.YtmfmhhopnmglcaaDoorBase
import Derived.Test.YtmfmhhopnmglcaaDoorField
import Derived.Test.YtmfmhhopnmglcaaDoorSl
import Derived.Test.YtmfmhhopnmglcaaDoorLw
import Derived.Test.YtmfmhhopnmglcaaDoorPm
import Derived.Test.YtmfmhhopnmglcaaDoorShok
import Derived.Test.YtmfmhhopnmglcaaDoorPn
import Derived.Test.YtmfmhhopnmglcaaDoorPq
import Derived.Test.YtmfmhhopnmglcaaDoorPr
import Derived.Test.YtmfmhhopnmglcaaDoorPoly
import Derived.Test.YtmfmhhopnmglcaaDoorPline
import Derived.Test.YtmfmhhopnmglcaaDoorPmul
import Derived.Test.YtmfmhhopnmglcaaDoorPthr
import Derived.Test.YtmfmhhopnmglcaaDoorPths
import Derived.Test.YtmfmhhopnmglcaaDoorTy
import Derived.Test.YtmfmhhopnmglcaaDoorTym
import Derived.Test.YtmfmhhopnmglcaaDoorTyn
import Derived.Test.YtmfmhhopnmglcaaDoorTys
import Derived.Test.YtmfmhhopnmglcaaDoorCat
import Derived.Test.YtmfmhhopnmglcaaDoorPfp
import Derived.Test.YtmfmhhopnmglcaaDoorPf
import Derived.Test.YtmfmhhopnmglcaaDoorPfs
import Derived.Test.YtmfmhhopnmglcaaDoorPft
import Derived.Test.YtmfmhhopnmglcaaDoorPfx
import Derived.Test.YtmfmhhopnmglcaaDoorPfi
import Derived.Test.YtmfmhhopnmglcaaDoorPfl
import Derived.Test.YtmfmhhopnmglcaaDoorDraw
import Derived.Test.YtmfmhhopnmglcaaDoorDlist
import Derived.Test.YtmfmhhopnmglcaaDoorTyd
import Derived.Test.YtmfmhhopnmglcaaDoorScl
import Derived.Test.YtmfmhhopnmglcaaDoorEis
import Derived.Test.YtmfmhhopnmglcaaDoorPfw
import Derived.Test.YtmfmhhopnmglcaaDoorPfz
import Derived.Test.YtmfmhhopnmglcaaDoorPfc
import Derived.Test.YtmfmhhopnmglcaaDoorPfk
import Derived.Test.YtmfmhhopnmglcaaDoorPfm
import Derived.Test.YtmfmhhopnmglcaaDoorPfy
import Derived.Test.YtmfmhhopnmglcaaDoorPfv
import Derived.Test.YtmfmhhopnmglcaaDoorPfu
import Derived.Test.YtmfmhhopnmglcaaDoorPfr
import Derived.Test.YtmfmhhopnmglcaaDoorPfe
import Derived.Test.YtmfmhhopnmglcaaDoorDr
import Derived.Test.YtmfmhhopnmglcaaDoorDr
import Derived.Test.YtmfmhhopnmglcaaDoorTie
import Derived.Test.YtmfmhhopnmglcaaDoorCards
import Derived.SevenTiedAt
namespace Go.Proofs.YtmfmhhopnmglcaaDoor.fnProofAll
open Go.ChangeShapes Go.WideShapes Go.ChangeAt Go.RowKit
open Go.ChangeMaps (open_string shut_string)
set_option linter.unusedVariables false
set_option linter.unusedSimpArgs false

theorem own : ownKnob Tryd.prog.godebug = none := by kernel_rfl
theorem laidOut : laidOutB Tryd.prog = true := by kernel_rfl

theorem all_cut {k : Int} {v : List Int} {x y : Int} {h : List Int} (hp : Fp.pall k v x y h = true) : Fp.cok k (Fp.palL k v x y h) = true ∧ Fp.cV k (Fp.palL k v x y h) = v ∧ Fp.cX k (Fp.palL k v x y h) = x ∧ Fp.cY k (Fp.palL k v x y h) = y ∧ Fp.cH k (Fp.palL k v x y h) = h := by
  obtain ⟨h1, h2⟩ := Fp.pall_iff.1 hp
  obtain ⟨t1, t2, t3⟩ := Fp.tvec_iff.1 h1
  obtain ⟨w1, w2, w3, w4⟩ := Fp.wf_iff.1 h2
  have t4 := Fp.tlen_le k
  have e := Fp.palL_yes hp
  have hl : (Fp.palL k v x y h).length = 3 * Fp.tlen k + 3 := by rw [e]; simp; omega
  have hc : Fp.cok k (Fp.palL k v x y h) = true := by
    refine Fp.cok_iff.2 ⟨t1, by rw [hl, Fp.plen_yes t1], ?_⟩
    rw [Fp.sok_iff, hl]
    refine ⟨by omega, fun z hz => ?_⟩
    rw [e] at hz
    simp only [List.mem_append, List.mem_cons, List.not_mem_nil, or_false] at hz
    rcases hz with (hz | rfl | rfl) | hz
    · exact ((Fp.sok_iff _).1 t2).2 z hz
    · exact w1
    · exact w2
    · exact ((Fp.pok_iff _).1 w4).2 z hz
  obtain ⟨e1, e2, e3, e4⟩ := Fp.cut_yes hc
  refine ⟨hc, ?_, ?_, ?_, ?_⟩
  · rw [e1, e, List.append_assoc, ← t3]; simp
  · rw [e2, e, List.append_assoc, ← t3, List.getD_eq_getElem?_getD]; simp
  · rw [e3, e, List.append_assoc, ← t3, List.getD_eq_getElem?_getD, List.getElem?_append_right (by omega)]; simp
  · rw [e4, e, List.drop_append_of_le_length (by simp; omega)]
    have : (v ++ [x, y]).length = Fp.tlen k + 2 := by simp [t3]
    rw [← this, List.drop_length]; rfl
set_option maxHeartbeats 1000000 in
set_option maxRecDepth 100000 in
theorem walk (a0 : Option Addr) (len0 cap0 : Nat) (z0 : List Int) (w : World) (w0 : IsRow .u8 w a0 len0 cap0 z0) (ea : Addr) (he : Err w ea) :
    Calls Tryd.prog 6 #[.slice a0 len0 cap0] w fun e w' => e = .returned (.bool true) ∧ Below w.heap.size w w' := by
  obtain ⟨c1, c2⟩ := w0.sizes
  have Hb := Lib.hid (Bys.of_row w0)
  clear w0
  by_cases hl : 1048576 < len0
  · go_enter Tryd.func6, Tryd.ntmps6
    go_wp2
    go_ret
    exact ⟨rfl, Below.refl _ _⟩
  obtain ⟨d, D1, D2, D3⟩ := prf_desc
  have HE := Lib.hid he
  clear he
  have B := Lib.hid (Below.refl w.heap.size w)
  go_enter Tryd.func6, Tryd.ntmps6
  go_wp2_with fail
  refine (spec_DrawProofAll a0 len0 cap0 w Hb.out c1 c2).mono ?_
  rintro e W1 ⟨k, a_v, n_v, c_v, zs, x, y, a_p, n_p, c_p, hs, k1, k2, l_v, l_p, x1, x2, y1, y2, rfl, o_v, o_p, b_d⟩
  have Z_W1 : w.heap.size ≤ W1.heap.size := b_d.size
  have O_v := Lib.hid o_v
  have L_v := Lib.hid o_v.len
  have O_p := Lib.hid o_p
  have L_p := Lib.hid o_p.len
  replace B := Lib.hid (B.out.trans (b_d.mono B.out.size))
  clear b_d o_v o_p
  clear c1 c2
  obtain ⟨A_p, W2, hA_p, nt, hV_p, b_h, r_h, z_h⟩ := prf_hold W1 (x) (y) a_p n_p c_p 28
  have NT_p := Lib.hid nt
  have R_p := Lib.hid r_h
  have Z_W2 : W1.heap.size < W2.heap.size := z_h
  replace O_v := Lib.hid (O_v.out.below b_h)
  replace O_p := Lib.hid (O_p.out.below b_h)
  replace B := Lib.hid (B.out.trans (b_h.mono B.out.size))
  clear nt b_h r_h z_h
  have pl : (Fp.palL k zs x y hs).length ≤ 20 := by
    have := L_v.out
    have := L_p.out
    unfold Fp.palL
    split
    · simp; omega
    · simp
  have e1 := eqB_self (Fp.palL k zs x y hs)
  go_wp2_with (first | (refine wpList_of_wp (by rfl) (wp_load_mid 28 _ rfl W1.heap.size 0 rfl (prc (x) (y) a_p n_p c_p) _ R_p.out D1 D2 D3 ?_)) | (refine wpList_of_wp (by rfl) (wp_store_mid 28 _ _ rfl W1.heap.size 0 (prc (x) (y) a_p n_p c_p).toArray rfl rfl NT_p.out D3 (prc_one _ _ _ _ _) ?_); rw [show (prc (x) (y) a_p n_p c_p).toArray.toList = prc (x) (y) a_p n_p c_p from rfl, hV_p]))
  clear hA_p hV_p NT_p
  refine (spec_ProofAll _ _ _ _ _ _ _ _ _ _ _ _ O_v.out.sl O_p.out.sl (by omega) (by omega)).mono ?_
  rintro e W3 ⟨a_w, n_w, c_w, rfl, o_w, b_w⟩
  have O_w := Lib.hid o_w
  have L_w := Lib.hid o_w.len
  have Z_W3 : W2.heap.size ≤ W3.heap.size := b_w.size
  replace O_v := Lib.hid (O_v.out.below b_w)
  replace O_p := Lib.hid (O_p.out.below b_w)
  replace R_p := Lib.hid (range_below R_p.out b_w (by omega))
  replace B := Lib.hid (B.out.trans (b_w.mono B.out.size))
  clear o_w b_w
  have h_w : n_w ≤ 20 := by rw [← L_w.out]; exact pl
  go_wp2_with (first | (refine wpList_of_wp (by rfl) (wp_load_mid 28 _ rfl W1.heap.size 0 rfl (prc (x) (y) a_p n_p c_p) _ R_p.out D1 D2 D3 ?_)))
  refine (impl_ProofAll _ _ _ _ _ _ _ _ _ _ _ _ ea (HE.out.below B.out) O_v.out.sl O_p.out.sl).mono ?_
  rintro e W4 ⟨a_l, n_l, c_l, rfl, o_l, b_l⟩
  have O_l := Lib.hid o_l
  have L_l := Lib.hid o_l.len
  have Z_W4 : W3.heap.size ≤ W4.heap.size := b_l.size
  replace O_v := Lib.hid (O_v.out.below b_l)
  replace O_p := Lib.hid (O_p.out.below b_l)
  replace O_w := Lib.hid (O_w.out.below b_l)
  replace R_p := Lib.hid (range_below R_p.out b_l (by omega))
  replace B := Lib.hid (B.out.trans (b_l.mono B.out.size))
  clear o_l b_l
  have h_l : n_l ≤ 20 := by rw [← L_l.out]; exact pl
  clear pl
  go_wp2_with (first | (refine wpList_of_wp (by rfl) (wp_load_mid 28 _ rfl W1.heap.size 0 rfl (prc (x) (y) a_p n_p c_p) _ R_p.out D1 D2 D3 ?_)))
  refine (laws_loInts _ _ _ _ _ _ _ _ _ O_l.out.sl O_w.out.sl (by omega) (by omega)).mono ?_
  rintro e W5 hd
  obtain ⟨rfl, b_d⟩ := hd.below
  have Z_W5 : W4.heap.size ≤ W5.heap.size := b_d.size
  clear hd
  replace O_v := Lib.hid (O_v.out.below b_d)
  replace O_p := Lib.hid (O_p.out.below b_d)
  replace O_w := Lib.hid (O_w.out.below b_d)
  replace O_l := Lib.hid (O_l.out.below b_d)
  replace R_p := Lib.hid (range_below R_p.out b_d (by omega))
  replace B := Lib.hid (B.out.trans (b_d.mono B.out.size))
  clear b_d
  cases hc : Fp.pall k zs x y hs
  · skip
    go_wp2_with (first | (refine wpList_of_wp (by rfl) (wp_load_mid 28 _ rfl W1.heap.size 0 rfl (prc (x) (y) a_p n_p c_p) _ R_p.out D1 D2 D3 ?_)))
    refine (laws_loInts _ _ _ _ _ _ _ _ _ O_l.out.sl O_w.out.sl (by omega) (by omega)).mono ?_
    rintro e W6 hd
    obtain ⟨rfl, b_d⟩ := hd.below
    have Z_W6 : W5.heap.size ≤ W6.heap.size := b_d.size
    clear hd
    replace O_v := Lib.hid (O_v.out.below b_d)
    replace O_p := Lib.hid (O_p.out.below b_d)
    replace O_w := Lib.hid (O_w.out.below b_d)
    replace O_l := Lib.hid (O_l.out.below b_d)
    replace R_p := Lib.hid (range_below R_p.out b_d (by omega))
    replace B := Lib.hid (B.out.trans (b_d.mono B.out.size))
    clear b_d
    go_wp2
    go_ret
    exact ⟨rfl, B.out⟩
  · skip
    obtain ⟨p1, p2, p3, p4, p5⟩ := all_cut hc
    have C := fun (W : World) (h1 : Sl W a_l n_l (Fp.palL k zs x y hs)) => impl_ProofCut k a_l n_l c_l (Fp.palL k zs x y hs) W h1 O_l.out.le O_l.out.lim
    rw [p1, p2, p3, p4, p5] at C
    have CC := Lib.hid C
    have ee := eqB_self zs
    have ef := eqB_self hs
    have d1 : ((n_l : Int) == ((Fp.plen k : Nat) : Int)) = true := beqT (by have := L_l.out; have := (Fp.cok_iff.1 p1).2.1; omega)
    clear p1 p2 p3 p4 p5 C hc
    go_wp2_with (first | (refine wpList_of_wp (by rfl) (wp_load_mid 28 _ rfl W1.heap.size 0 rfl (prc (x) (y) a_p n_p c_p) _ R_p.out D1 D2 D3 ?_)))
    refine (CC.out _ O_l.out.sl).mono ?_
    rintro e W7 ⟨m_g, a_g, n_g, c_g, a_q, n_q, c_q, rfl, M_g, M_q, o_g, o_q, b_d⟩
    have Z_W7 : W5.heap.size ≤ W7.heap.size := b_d.size
    have O_g := Lib.hid o_g
    have L_g := Lib.hid o_g.len
    have O_q := Lib.hid o_q
    have L_q := Lib.hid o_q.len
    replace O_v := Lib.hid (O_v.out.below b_d)
    replace O_p := Lib.hid (O_p.out.below b_d)
    replace O_w := Lib.hid (O_w.out.below b_d)
    replace O_l := Lib.hid (O_l.out.below b_d)
    replace R_p := Lib.hid (range_below R_p.out b_d (by omega))
    replace B := Lib.hid (B.out.trans (b_d.mono B.out.size))
    clear b_d o_g o_q
    obtain ⟨A_q, W8, hA_q, nt, hV_q, b_h, r_h, z_h⟩ := prf_hold W7 (x) (y) a_q n_q c_q 28
    have NT_q := Lib.hid nt
    have R_q := Lib.hid r_h
    have Z_W8 : W7.heap.size < W8.heap.size := z_h
    replace O_v := Lib.hid (O_v.out.below b_h)
    replace O_p := Lib.hid (O_p.out.below b_h)
    replace O_w := Lib.hid (O_w.out.below b_h)
    replace O_l := Lib.hid (O_l.out.below b_h)
    replace O_g := Lib.hid (O_g.out.below b_h)
    replace O_q := Lib.hid (O_q.out.below b_h)
    replace R_p := Lib.hid (range_below R_p.out b_h (by omega))
    replace B := Lib.hid (B.out.trans (b_h.mono B.out.size))
    clear nt b_h r_h z_h
    go_wp2_with (first | (refine wpList_of_wp (by rfl) (wp_load_mid 28 _ rfl W1.heap.size 0 rfl (prc (x) (y) a_p n_p c_p) _ R_p.out D1 D2 D3 ?_)) | (refine wpList_of_wp (by rfl) (wp_load_mid 28 _ rfl W7.heap.size 0 rfl (prc (x) (y) a_q n_q c_q) _ R_q.out D1 D2 D3 ?_)) | (refine wpList_of_wp (by rfl) (wp_store_mid 28 _ _ rfl W7.heap.size 0 (prc (x) (y) a_q n_q c_q).toArray rfl rfl NT_q.out D3 (prc_one _ _ _ _ _) ?_); rw [show (prc (x) (y) a_q n_q c_q).toArray.toList = prc (x) (y) a_q n_q c_q from rfl, hV_q]))
    clear hA_q hV_q NT_q
    refine (laws_loInts _ _ _ _ _ _ _ _ _ O_g.out.sl O_v.out.sl (by have := O_g.out.len; have := L_v.out; omega) (by omega)).mono ?_
    rintro e W9 hd
    obtain ⟨rfl, b_d⟩ := hd.below
    have Z_W9 : W8.heap.size ≤ W9.heap.size := b_d.size
    clear hd
    replace O_v := Lib.hid (O_v.out.below b_d)
    replace O_p := Lib.hid (O_p.out.below b_d)
    replace O_w := Lib.hid (O_w.out.below b_d)
    replace O_l := Lib.hid (O_l.out.below b_d)
    replace O_g := Lib.hid (O_g.out.below b_d)
    replace O_q := Lib.hid (O_q.out.below b_d)
    replace R_p := Lib.hid (range_below R_p.out b_d (by omega))
    replace R_q := Lib.hid (range_below R_q.out b_d (by omega))
    replace B := Lib.hid (B.out.trans (b_d.mono B.out.size))
    clear b_d
    go_wp2_with (first | (refine wpList_of_wp (by rfl) (wp_load_mid 28 _ rfl W1.heap.size 0 rfl (prc (x) (y) a_p n_p c_p) _ R_p.out D1 D2 D3 ?_)) | (refine wpList_of_wp (by rfl) (wp_load_mid 28 _ rfl W7.heap.size 0 rfl (prc (x) (y) a_q n_q c_q) _ R_q.out D1 D2 D3 ?_)))
    refine (laws_loProof _ _ _ _ _ _ _ _ _ _ _ _ _ O_q.out.sl O_p.out.sl rfl rfl (by have := O_q.out.len; have := L_p.out; omega) (by omega)).mono ?_
    rintro e W10 hd
    obtain ⟨rfl, b_d⟩ := hd.below
    have Z_W10 : W9.heap.size ≤ W10.heap.size := b_d.size
    clear hd
    replace O_v := Lib.hid (O_v.out.below b_d)
    replace O_p := Lib.hid (O_p.out.below b_d)
    replace O_w := Lib.hid (O_w.out.below b_d)
    replace O_l := Lib.hid (O_l.out.below b_d)
    replace O_g := Lib.hid (O_g.out.below b_d)
    replace O_q := Lib.hid (O_q.out.below b_d)
    replace R_p := Lib.hid (range_below R_p.out b_d (by omega))
    replace R_q := Lib.hid (range_below R_q.out b_d (by omega))
    replace B := Lib.hid (B.out.trans (b_d.mono B.out.size))
    clear b_d
    go_wp2_with (first | (refine wpList_of_wp (by rfl) (wp_load_mid 28 _ rfl W1.heap.size 0 rfl (prc (x) (y) a_p n_p c_p) _ R_p.out D1 D2 D3 ?_)) | (refine wpList_of_wp (by rfl) (wp_load_mid 28 _ rfl W7.heap.size 0 rfl (prc (x) (y) a_q n_q c_q) _ R_q.out D1 D2 D3 ?_)))
    refine (impl_ProofLen _ _).mono ?_
    rintro e W11 ⟨rfl, b_d⟩
    have Z_W11 : W10.heap.size ≤ W11.heap.size := b_d.size
    replace O_v := Lib.hid (O_v.out.below b_d)
    replace O_p := Lib.hid (O_p.out.below b_d)
    replace O_w := Lib.hid (O_w.out.below b_d)
    replace O_l := Lib.hid (O_l.out.below b_d)
    replace O_g := Lib.hid (O_g.out.below b_d)
    replace O_q := Lib.hid (O_q.out.below b_d)
    replace R_p := Lib.hid (range_below R_p.out b_d (by omega))
    replace R_q := Lib.hid (range_below R_q.out b_d (by omega))
    replace B := Lib.hid (B.out.trans (b_d.mono B.out.size))
    clear b_d
    go_wp2
    go_ret
    exact ⟨rfl, B.out⟩

/-! ### THE ROW's STEP: WRITTEN OUT: LEAVE IT -/
set_option maxRecDepth 100000 in
theorem lifted (os : Os) (started : os.Started) (H : Type) (enc : TypeId × Value → H) :
    ReturnsInHanded {} Tryd.checked os 6 .any (fun w args => (Rows.fnProofAllSpec.pre enc Tryd.prog Tryd.f6 [] false w args ∧ laidMetH Tryd.prog laid1 w) ∧ sizedMet enc Tryd.prog Tryd.f6 (OpenSpec.ofChange Rows.fnProofAllSpec) false w args) (Rows.fnProofAllSpec.post enc Tryd.prog Tryd.f6 false true false false) := by
  refine returnsInHanded_of_change_and (C := Tryd.checked) (X := fun w _ => laidMetH Tryd.prog laid1 w) (fun _ _ _ hh h => h.of_heap hh) own started (by kernel_rfl) Tryd.func6
    (ChangeSpec.witness_shaped (enc := enc) (C := Tryd.checked) (os := os) (X := fun w _ => laidMetH Tryd.prog laid1 w) false (World.doorLaid Tryd.prog 28 os) #[.slice none 0 0] 8 rfl (World.shaped_of_RefB (by kernel_rfl) (by kernel_rfl)) (by kernel_rfl) (by kernel_rfl) (by kernel_rfl) (dr_met os _)) ?_
  intro W base args ds gs before hval0 hW _ _ hL _
  have hval : ∀ (j : Nat) t v, Tryd.f6.params[j]? = some t → args[j]? = some v → Value.okWide Tryd.prog W .any base t v := hval0
  have hW' := hW
  obtain ⟨p, q, hA0, hV, rfl, hfz, hnd⟩ := hW
  have hA : DataW.TrodAll enc Tryd.prog W 0 (fun _ => true) true Tryd.f6.params.toList args.toList ds p := hA0
  rw [Tryd.params6] at hA hval
  obtain ⟨v0, vs0, d0, ds0, p0, q0, hargs, rfl, rfl, h0, r0⟩ := trodAll_cons hA
  obtain ⟨rfl, rfl, rfl⟩ := trodAll_nil r0
  obtain rfl : args = #[v0] := by cases args; simp_all
  obtain ⟨ea, hv, he⟩ := dr_err hL
  have hV' : DataW.TrodVars enc Tryd.prog W (fun _ => true) [errName] gs q := hV
  obtain ⟨rfl, rfl⟩ := hV'.unique (dr_read enc hv _)
  obtain ⟨a0, len0, cap0, rfl⟩ := okWide_slice Tryd.underlying37 (hval 0 37 v0 rfl rfl)
  have k0 := h0
  have lt0 : ∀ x ∈ p0, x.block < W.heap.size := by obtain ⟨m, hm⟩ := k0; exact DataW.trod_lt m _ _ _ hm
  obtain ⟨z0, w0⟩ : ∃ zs, IsRow .u8 W a0 len0 cap0 zs := by
    obtain ⟨fuel, hf⟩ := h0
    rcases open_ints Tryd.underlying37 Tryd.underlying5 (by kernel_rfl) hf with ⟨hcs, _⟩ | ⟨x, l, c, zs, hcs, _, hl, hm, hz, _, hcell, hwz⟩
    · simp [Value.cells] at hcs
      obtain ⟨rfl, rfl, rfl⟩ := hcs
      exact ⟨[], .inl ⟨rfl, rfl, rfl, rfl⟩⟩
    · simp [Value.cells] at hcs
      obtain ⟨rfl, rfl, rfl⟩ := hcs
      exact ⟨zs, .inr ⟨_, rfl, hl, hm, by simpa using hz, hcell, hwz⟩⟩
  clear hA0 hval0
  refine (walk a0 len0 cap0 z0 W w0 ea he).mono fun e W' ⟨hr, bel⟩ => ?_
  subst hr
  exact ⟨_, rfl, _, _, _, [], _, [.cell errNum 0], hW', trodAll_mk1 (shut_bool Tryd.underlying4 _), (trodAll_cons_mk (Below.trod laidOut (by kernel_rfl) (of_decide_eq_true (by kernel_rfl)) k0 bel lt0) trodAll_mk0), dr_read enc (dr_var hv bel) _, bel.frame _, fun h => by cases h⟩

theorem over : Rows.fnProofAllRow.holds Tryd.pinned (OpenSpec.ofChange Rows.fnProofAllSpec) :=
  OpenClaim.holds_of_wide 6 Tryd.f6 rfl rfl rfl rfl rfl rfl rfl ⟨rfl, rfl, rfl, rfl, rfl⟩ rfl rfl rfl rfl rfl (by kernel_rfl) Tryd.func6 (by kernel_rfl)
    (of_decide_eq_true (by kernel_rfl)) (by unfold Func.isWrapper; first | (rw [if_pos (by decide +kernel)]; kernel_rfl) | (rw [if_neg (by decide +kernel)]; exact ⟨rfl, rfl⟩))
    (fun os started H enc _ => lifted os started H enc)

/-- ████ THE STATEMENT ████ -/
theorem proved : Rows.FnProofAllCardSaid :=
  Claim7.holds_tied_plain_at .later [] [.sentinel] true (true, "35e9714a966987399509751047381904ed7b4bef9b6de213f9f4f26ec5229dc5") true
    over (fun _ h => by cases h) (by kernel_rfl) (fun _ h => by cases h) fnProofAll_row_tie rfl ⟨rfl, rfl⟩ (by kernel_rfl) rfl
    (fun f fn hf hfn => by
      obtain rfl : f = 6 := Option.some.inj ((show Tryd.prog.funcNamed "loop.example/scrutineer/laws.FnProofAll" = some 6 by kernel_rfl).symm.trans hf) |>.symm
      obtain rfl : fn = Tryd.f6 := (Option.some.inj (Tryd.func6.symm.trans hfn)).symm
      exact ⟨by kernel_rfl, fun j t ht => by
        rw [Tryd.params6] at ht
        rcases j with _ | j
        · obtain rfl : t = 37 := by simpa using ht.symm
          exact (show Tryd.prog.wantsStandIn 37 = false by kernel_rfl)
        · simp at ht⟩)
    (by kernel_rfl)
#print axioms proved
end Go.Proofs.YtmfmhhopnmglcaaDoor.fnProofAll
