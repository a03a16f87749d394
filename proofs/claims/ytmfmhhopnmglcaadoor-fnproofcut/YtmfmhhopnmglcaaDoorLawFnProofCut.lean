/-
  A list is cut as the model cuts it, and its parts make the same list again; one that is not cut is of no kind, too long or short, or of what is no element: the law FnProofCut returns true for every code.
  Conditions: none but the statement's own. Proved: Rows.FnProofCutCardSaid.
-/
import Derived.Test.YtmfmhhopnmglcaaDoorRows
import Derived.WalkKit
import Derived.ProofKit
import Derived.OpenShut
import Derived.ShutString
import Derived.ChangeOld
import Derived.Below
import Derived.Test.YtmfmhhopnmglcaaDoorFp
import Derived.Test.YtmfmhhopnmglcaaDoorBase
import Derived.Test.YtmfmhhopnmglcaaDoorField
import Derived.Test.YtmfmhhopnmglcaaDoorSl
import Derived.Test.YtmfmhhopnmglcaaDoorLw
import Derived.Test.YtmfmhhopnmglcaaDoorPm
import Derived.Test.YtmfmhhopnmglcaaDoorShok
import Derived.Test.YtmfmhhopnmglcaaDoorPn
import Derived.Test.YtmfmhhopnmglcaaDoorPq
import Derived.Test.YtmfmhhopnmglcaaDoorPr
import Derived.Test.YtmfmhhopnmglcaaDoorPoly
import Derived.Test.YtmfmhhopnmglcaaDoorPline
import Derived.Test.YtmfmhhopnmglcaaDoorPmul
import Derived.Test.YtmfmhhopnmglcaaDoorPthr
import Derived.Test.YtmfmhhopnmglcaaDoorPths
import Derived.Test.YtmfmhhopnmglcaaDoorTy
import Derived.Test.YtmfmhhopnmglcaaDoorTym
import Derived.Test.YtmfmhhopnmglcaaDoorTyn
import Derived.Test.YtmfmhhopnmglcaaDoorTys
import Derived.Test.YtmfmhhopnmglcaaDoorCat
import Derived.Test.YtmfmhhopnmglcaaDoorPfp
import Derived.Test.YtmfmhhopnmglcaaDoorPf
import Derived.Test.YtmfmhhopnmglcaaDoorPfs
import Derived.Test.YtmfmhhopnmglcaaDoorPft
import Derived.Test.YtmfmhhopnmglcaaDoorPfx
import Derived.Test.YtmfmhhopnmglcaaDoorPfi
import Derived.Test.YtmfmhhopnmglcaaDoorPfl
import Derived.Test.YtmfmhhopnmglcaaDoorDraw
import Derived.Test.YtmfmhhopnmglcaaDoorDlist
import Derived.Test.YtmfmhhopnmglcaaDoorTyd
import Derived.Test.YtmfmhhopnmglcaaDoorScl
import Derived.Test.YtmfmhhopnmglcaaDoorEis
import Derived.Test.YtmfmhhopnmglcaaDoorPfw
import Derived.Test.YtmfmhhopnmglcaaDoorPfz
import Derived.Test.YtmfmhhopnmglcaaDoorPfc
import Derived.Test.YtmfmhhopnmglcaaDoorPfk
import Derived.Test.YtmfmhhopnmglcaaDoorPfm
import Derived.Test.YtmfmhhopnmglcaaDoorPfy
import Derived.Test.YtmfmhhopnmglcaaDoorPfv
import Derived.Test.YtmfmhhopnmglcaaDoorPfu
import Derived.Test.YtmfmhhopnmglcaaDoorPfr
import Derived.Test.YtmfmhhopnmglcaaDoorPfe
import Derived.Test.YtmfmhhopnmglcaaDoorDr
import Derived.Test.YtmfmhhopnmglcaaDoorDr
import Derived.Test.YtmfmhhopnmglcaaDoorTie
import Derived.Test.YtmfmhhopnmglcaaDoorCards
import Derived.SevenTiedAt
namespace Go.Proofs.YtmfmhhopnmglcaaDoor.fnProofCut
open Go.ChangeShapes Go.WideShapes Go.ChangeAt Go.RowKit
open Go.ChangeMaps (open_string shut_string)
set_option linter.unusedVariables false
set_option linter.unusedSimpArgs false

theorem own : ownKnob Tryd.prog.godebug = none := by kernel_rfl
theorem laidOut : laidOutB Tryd.prog = true := by kernel_rfl

theorem cut_all {k : Int} {l : List Int} (h : Fp.cok k l = true) : Fp.pall k (Fp.cV k l) (Fp.cX k l) (Fp.cY k l) (Fp.cH k l) = true ∧ Fp.palL k (Fp.cV k l) (Fp.cX k l) (Fp.cY k l) (Fp.cH k l) = l := by
  obtain ⟨e1, e2, e3, e4⟩ := Fp.cut_yes h
  obtain ⟨h1, h2, h3⟩ := Fp.cok_iff.1 h
  rw [Fp.plen_yes h1] at h2
  have hs := Fp.sok_get h3
  have t4 := Fp.tlen_le k
  have hv : Fp.tvec k (l.take (Fp.tlen k)) = true := Fp.tvec_iff.2 ⟨h1, Fp.sok_take h3 _, by rw [List.length_take]; omega⟩
  have hw : Fp.wf (l.take (Fp.tlen k)).length (l.getD (Fp.tlen k) 0) (l.getD (Fp.tlen k + 1) 0) (l.drop (Fp.tlen k + 2)) = true := by
    refine Fp.wf_iff.2 ⟨hs _, hs _, by rw [List.length_drop, List.length_take]; omega, ?_⟩
    rw [Fp.pok_iff]
    exact ⟨by rw [List.length_drop]; omega, fun z hz => ((Fp.sok_iff _).1 h3).2 z (List.mem_of_mem_drop hz)⟩
  rw [e1, e2, e3, e4]
  have hp := Fp.pall_iff.2 ⟨hv, hw⟩
  refine ⟨hp, ?_⟩
  rw [Fp.palL_yes hp]
  have g1 : l.getD (Fp.tlen k) 0 = l[Fp.tlen k]'(by omega) := by rw [List.getD_eq_getElem?_getD, List.getElem?_eq_getElem (by omega)]; rfl
  have g2 : l.getD (Fp.tlen k + 1) 0 = l[Fp.tlen k + 1]'(by omega) := by rw [List.getD_eq_getElem?_getD, List.getElem?_eq_getElem (by omega)]; rfl
  rw [g1, g2, List.append_assoc]
  have a1 : l.drop (Fp.tlen k + 1) = l[Fp.tlen k + 1]'(by omega) :: l.drop (Fp.tlen k + 2) := List.drop_eq_getElem_cons (by omega)
  have a2 : l.drop (Fp.tlen k) = l[Fp.tlen k]'(by omega) :: l.drop (Fp.tlen k + 1) := List.drop_eq_getElem_cons (by omega)
  have a3 : [l[Fp.tlen k]'(by omega), l[Fp.tlen k + 1]'(by omega)] ++ l.drop (Fp.tlen k + 2) = l.drop (Fp.tlen k) := by rw [a2, a1]; rfl
  rw [a3]
  exact List.take_append_drop _ _
theorem cut_why {k : Int} {l : List Int} (h : Fp.cok k l = false) : l.length ≠ Fp.plen k ∨ (l.length = Fp.plen k ∧ Fp.sok l = false) ∨ (l.length = Fp.plen k ∧ Fp.sok l = true ∧ Fp.plen k = 0) := by
  by_cases h1 : l.length = Fp.plen k
  · cases h2 : Fp.sok l
    · exact .inr (.inl ⟨h1, rfl⟩)
    · right; right
      cases h3 : Fp.tk k
      · exact ⟨h1, rfl, Fp.plen_no h3⟩
      · rw [Fp.cok_iff.2 ⟨h3, h1, h2⟩] at h; cases h
  · exact .inl h1
set_option maxHeartbeats 1000000 in
set_option maxRecDepth 100000 in
theorem walk (a0 : Option Addr) (len0 cap0 : Nat) (z0 : List Int) (w : World) (w0 : IsRow .u8 w a0 len0 cap0 z0) (ea : Addr) (he : Err w ea) :
    Calls Tryd.prog 7 #[.slice a0 len0 cap0] w fun e w' => e = .returned (.bool true) ∧ Below w.heap.size w w' := by
  obtain ⟨c1, c2⟩ := w0.sizes
  have Hb := Lib.hid (Bys.of_row w0)
  clear w0
  by_cases hl : 1048576 < len0
  · go_enter Tryd.func7, Tryd.ntmps7
    go_wp2
    go_ret
    exact ⟨rfl, Below.refl _ _⟩
  obtain ⟨d, D1, D2, D3⟩ := prf_desc
  have HE := Lib.hid he
  clear he
  have B := Lib.hid (Below.refl w.heap.size w)
  go_enter Tryd.func7, Tryd.ntmps7
  go_wp2_with fail
  refine (spec_DrawProofCut a0 len0 cap0 w Hb.out c1 c2).mono ?_
  rintro e W1 ⟨k, a_l, n_l, c_l, zs, k1, k2, l_l, rfl, o_l, b_d⟩
  have Z_W1 : w.heap.size ≤ W1.heap.size := b_d.size
  have O_l := Lib.hid o_l
  have L_l := Lib.hid o_l.len
  replace B := Lib.hid (B.out.trans (b_d.mono B.out.size))
  clear b_d o_l
  clear c1 c2
  have e1 := eqB_self (Fp.cV k zs)
  have e2 := eqB_self (Fp.cH k zs)
  have pv := Lib.hid (Fp.cV_len k zs)
  have ph := Lib.hid (Fp.cH_len k zs)
  go_wp2_with fail
  refine (spec_ProofCut _ _ _ _ _ _ O_l.out.sl (by omega) O_l.out.le O_l.out.lim).mono ?_
  rintro e W2 ⟨a_w, n_w, c_w, a_u, n_u, c_u, rfl, o_w, o_u, b_d⟩
  have Z_W2 : W1.heap.size ≤ W2.heap.size := b_d.size
  have O_w := Lib.hid o_w
  have L_w := Lib.hid o_w.len
  have O_u := Lib.hid o_u
  have L_u := Lib.hid o_u.len
  replace O_l := Lib.hid (O_l.out.below b_d)
  replace B := Lib.hid (B.out.trans (b_d.mono B.out.size))
  clear b_d o_w o_u
  have h_w : n_w ≤ 20 := by rw [← L_w.out]; exact pv.out
  have h_u : n_u ≤ 20 := by rw [← L_u.out]; exact ph.out
  obtain ⟨A_u, W3, hA_u, nt, hV_u, b_h, r_h, z_h⟩ := prf_hold W2 (Fp.cX k zs) (Fp.cY k zs) a_u n_u c_u 28
  have NT_u := Lib.hid nt
  have R_u := Lib.hid r_h
  have Z_W3 : W2.heap.size < W3.heap.size := z_h
  replace O_l := Lib.hid (O_l.out.below b_h)
  replace O_w := Lib.hid (O_w.out.below b_h)
  replace O_u := Lib.hid (O_u.out.below b_h)
  replace B := Lib.hid (B.out.trans (b_h.mono B.out.size))
  clear nt b_h r_h z_h
  go_wp2_with (first | (refine wpList_of_wp (by rfl) (wp_load_mid 28 _ rfl W2.heap.size 0 rfl (prc (Fp.cX k zs) (Fp.cY k zs) a_u n_u c_u) _ R_u.out D1 D2 D3 ?_)) | (refine wpList_of_wp (by rfl) (wp_store_mid 28 _ _ rfl W2.heap.size 0 (prc (Fp.cX k zs) (Fp.cY k zs) a_u n_u c_u).toArray rfl rfl NT_u.out D3 (prc_one _ _ _ _ _) ?_); rw [show (prc (Fp.cX k zs) (Fp.cY k zs) a_u n_u c_u).toArray.toList = prc (Fp.cX k zs) (Fp.cY k zs) a_u n_u c_u from rfl, hV_u]))
  clear hA_u hV_u NT_u
  refine (impl_ProofCut _ _ _ _ _ _ O_l.out.sl O_l.out.le O_l.out.lim).mono ?_
  rintro e W4 ⟨m_v, a_v, n_v, c_v, a_p, n_p, c_p, rfl, M_v, M_p, o_v, o_p, b_d⟩
  have Z_W4 : W3.heap.size ≤ W4.heap.size := b_d.size
  have O_v := Lib.hid o_v
  have L_v := Lib.hid o_v.len
  have O_p := Lib.hid o_p
  have L_p := Lib.hid o_p.len
  replace O_l := Lib.hid (O_l.out.below b_d)
  replace O_w := Lib.hid (O_w.out.below b_d)
  replace O_u := Lib.hid (O_u.out.below b_d)
  replace R_u := Lib.hid (range_below R_u.out b_d (by omega))
  replace B := Lib.hid (B.out.trans (b_d.mono B.out.size))
  clear b_d o_v o_p
  have h_v : n_v ≤ 20 := by rw [← L_v.out]; exact pv.out
  have h_p : n_p ≤ 20 := by rw [← L_p.out]; exact ph.out
  obtain ⟨A_p, W5, hA_p, nt, hV_p, b_h, r_h, z_h⟩ := prf_hold W4 (Fp.cX k zs) (Fp.cY k zs) a_p n_p c_p 28
  have NT_p := Lib.hid nt
  have R_p := Lib.hid r_h
  have Z_W5 : W4.heap.size < W5.heap.size := z_h
  replace O_l := Lib.hid (O_l.out.below b_h)
  replace O_w := Lib.hid (O_w.out.below b_h)
  replace O_u := Lib.hid (O_u.out.below b_h)
  replace O_v := Lib.hid (O_v.out.below b_h)
  replace O_p := Lib.hid (O_p.out.below b_h)
  replace R_u := Lib.hid (range_below R_u.out b_h (by omega))
  replace B := Lib.hid (B.out.trans (b_h.mono B.out.size))
  clear nt b_h r_h z_h
  go_wp2_with (first | (refine wpList_of_wp (by rfl) (wp_load_mid 28 _ rfl W2.heap.size 0 rfl (prc (Fp.cX k zs) (Fp.cY k zs) a_u n_u c_u) _ R_u.out D1 D2 D3 ?_)) | (refine wpList_of_wp (by rfl) (wp_load_mid 28 _ rfl W4.heap.size 0 rfl (prc (Fp.cX k zs) (Fp.cY k zs) a_p n_p c_p) _ R_p.out D1 D2 D3 ?_)) | (refine wpList_of_wp (by rfl) (wp_store_mid 28 _ _ rfl W4.heap.size 0 (prc (Fp.cX k zs) (Fp.cY k zs) a_p n_p c_p).toArray rfl rfl NT_p.out D3 (prc_one _ _ _ _ _) ?_); rw [show (prc (Fp.cX k zs) (Fp.cY k zs) a_p n_p c_p).toArray.toList = prc (Fp.cX k zs) (Fp.cY k zs) a_p n_p c_p from rfl, hV_p]))
  clear hA_p hV_p NT_p
  refine (laws_loInts _ _ _ _ _ _ _ _ _ O_v.out.sl O_w.out.sl (by omega) (by omega)).mono ?_
  rintro e W6 hd
  obtain ⟨rfl, b_d⟩ := hd.below
  have Z_W6 : W5.heap.size ≤ W6.heap.size := b_d.size
  clear hd
  replace O_l := Lib.hid (O_l.out.below b_d)
  replace O_w := Lib.hid (O_w.out.below b_d)
  replace O_u := Lib.hid (O_u.out.below b_d)
  replace O_v := Lib.hid (O_v.out.below b_d)
  replace O_p := Lib.hid (O_p.out.below b_d)
  replace R_u := Lib.hid (range_below R_u.out b_d (by omega))
  replace R_p := Lib.hid (range_below R_p.out b_d (by omega))
  replace B := Lib.hid (B.out.trans (b_d.mono B.out.size))
  clear b_d
  go_wp2_with (first | (refine wpList_of_wp (by rfl) (wp_load_mid 28 _ rfl W2.heap.size 0 rfl (prc (Fp.cX k zs) (Fp.cY k zs) a_u n_u c_u) _ R_u.out D1 D2 D3 ?_)) | (refine wpList_of_wp (by rfl) (wp_load_mid 28 _ rfl W4.heap.size 0 rfl (prc (Fp.cX k zs) (Fp.cY k zs) a_p n_p c_p) _ R_p.out D1 D2 D3 ?_)))
  refine (laws_loProof _ _ _ _ _ _ _ _ _ _ _ _ _ O_p.out.sl O_u.out.sl rfl rfl (by omega) (by omega)).mono ?_
  rintro e W7 hd
  obtain ⟨rfl, b_d⟩ := hd.below
  have Z_W7 : W6.heap.size ≤ W7.heap.size := b_d.size
  clear hd
  replace O_l := Lib.hid (O_l.out.below b_d)
  replace O_w := Lib.hid (O_w.out.below b_d)
  replace O_u := Lib.hid (O_u.out.below b_d)
  replace O_v := Lib.hid (O_v.out.below b_d)
  replace O_p := Lib.hid (O_p.out.below b_d)
  replace R_u := Lib.hid (range_below R_u.out b_d (by omega))
  replace R_p := Lib.hid (range_below R_p.out b_d (by omega))
  replace B := Lib.hid (B.out.trans (b_d.mono B.out.size))
  clear b_d
  cases hc : Fp.cok k zs
  · skip
    have LL := L_l.out
    go_wp2_with (first | (refine wpList_of_wp (by rfl) (wp_load_mid 28 _ rfl W2.heap.size 0 rfl (prc (Fp.cX k zs) (Fp.cY k zs) a_u n_u c_u) _ R_u.out D1 D2 D3 ?_)) | (refine wpList_of_wp (by rfl) (wp_load_mid 28 _ rfl W4.heap.size 0 rfl (prc (Fp.cX k zs) (Fp.cY k zs) a_p n_p c_p) _ R_p.out D1 D2 D3 ?_)))
    refine (laws_loInts _ _ _ _ _ _ _ _ _ O_v.out.sl O_w.out.sl (by omega) (by omega)).mono ?_
    rintro e W8 hd
    obtain ⟨rfl, b_d⟩ := hd.below
    have Z_W8 : W7.heap.size ≤ W8.heap.size := b_d.size
    clear hd
    replace O_l := Lib.hid (O_l.out.below b_d)
    replace O_w := Lib.hid (O_w.out.below b_d)
    replace O_u := Lib.hid (O_u.out.below b_d)
    replace O_v := Lib.hid (O_v.out.below b_d)
    replace O_p := Lib.hid (O_p.out.below b_d)
    replace R_u := Lib.hid (range_below R_u.out b_d (by omega))
    replace R_p := Lib.hid (range_below R_p.out b_d (by omega))
    replace B := Lib.hid (B.out.trans (b_d.mono B.out.size))
    clear b_d
    go_wp2_with (first | (refine wpList_of_wp (by rfl) (wp_load_mid 28 _ rfl W2.heap.size 0 rfl (prc (Fp.cX k zs) (Fp.cY k zs) a_u n_u c_u) _ R_u.out D1 D2 D3 ?_)) | (refine wpList_of_wp (by rfl) (wp_load_mid 28 _ rfl W4.heap.size 0 rfl (prc (Fp.cX k zs) (Fp.cY k zs) a_p n_p c_p) _ R_p.out D1 D2 D3 ?_)))
    refine (laws_loProof _ _ _ _ _ _ _ _ _ _ _ _ _ O_p.out.sl O_u.out.sl rfl rfl (by omega) (by omega)).mono ?_
    rintro e W9 hd
    obtain ⟨rfl, b_d⟩ := hd.below
    have Z_W9 : W8.heap.size ≤ W9.heap.size := b_d.size
    clear hd
    replace O_l := Lib.hid (O_l.out.below b_d)
    replace O_w := Lib.hid (O_w.out.below b_d)
    replace O_u := Lib.hid (O_u.out.below b_d)
    replace O_v := Lib.hid (O_v.out.below b_d)
    replace O_p := Lib.hid (O_p.out.below b_d)
    replace R_u := Lib.hid (range_below R_u.out b_d (by omega))
    replace R_p := Lib.hid (range_below R_p.out b_d (by omega))
    replace B := Lib.hid (B.out.trans (b_d.mono B.out.size))
    clear b_d
    rcases cut_why hc with h1 | ⟨h1, h2⟩ | ⟨h1, h2, h3⟩
    · skip
      have d1 : ((n_l : Int) == ((Fp.plen k : Nat) : Int)) = false := beqF (by omega)
      have d2 : ((n_l : Int) != ((Fp.plen k : Nat) : Int)) = true := by rw [bne, d1]; rfl
      clear h1 hc LL
      go_wp2_with (first | (refine wpList_of_wp (by rfl) (wp_load_mid 28 _ rfl W2.heap.size 0 rfl (prc (Fp.cX k zs) (Fp.cY k zs) a_u n_u c_u) _ R_u.out D1 D2 D3 ?_)) | (refine wpList_of_wp (by rfl) (wp_load_mid 28 _ rfl W4.heap.size 0 rfl (prc (Fp.cX k zs) (Fp.cY k zs) a_p n_p c_p) _ R_p.out D1 D2 D3 ?_)))
      refine (impl_ProofLen _ _).mono ?_
      rintro e W10 ⟨rfl, b_d⟩
      have Z_W10 : W9.heap.size ≤ W10.heap.size := b_d.size
      replace O_l := Lib.hid (O_l.out.below b_d)
      replace O_w := Lib.hid (O_w.out.below b_d)
      replace O_u := Lib.hid (O_u.out.below b_d)
      replace O_v := Lib.hid (O_v.out.below b_d)
      replace O_p := Lib.hid (O_p.out.below b_d)
      replace R_u := Lib.hid (range_below R_u.out b_d (by omega))
      replace R_p := Lib.hid (range_below R_p.out b_d (by omega))
      replace B := Lib.hid (B.out.trans (b_d.mono B.out.size))
      clear b_d
      go_wp2
      go_ret
      exact ⟨rfl, B.out⟩
    · skip
      have d1 : ((n_l : Int) == ((Fp.plen k : Nat) : Int)) = true := beqT (by omega)
      have d2 : ((n_l : Int) != ((Fp.plen k : Nat) : Int)) = false := by rw [bne, d1]; rfl
      clear h1 hc LL
      go_wp2_with (first | (refine wpList_of_wp (by rfl) (wp_load_mid 28 _ rfl W2.heap.size 0 rfl (prc (Fp.cX k zs) (Fp.cY k zs) a_u n_u c_u) _ R_u.out D1 D2 D3 ?_)) | (refine wpList_of_wp (by rfl) (wp_load_mid 28 _ rfl W4.heap.size 0 rfl (prc (Fp.cX k zs) (Fp.cY k zs) a_p n_p c_p) _ R_p.out D1 D2 D3 ?_)))
      refine (impl_ProofLen _ _).mono ?_
      rintro e W11 ⟨rfl, b_d⟩
      have Z_W11 : W9.heap.size ≤ W11.heap.size := b_d.size
      replace O_l := Lib.hid (O_l.out.below b_d)
      replace O_w := Lib.hid (O_w.out.below b_d)
      replace O_u := Lib.hid (O_u.out.below b_d)
      replace O_v := Lib.hid (O_v.out.below b_d)
      replace O_p := Lib.hid (O_p.out.below b_d)
      replace R_u := Lib.hid (range_below R_u.out b_d (by omega))
      replace R_p := Lib.hid (range_below R_p.out b_d (by omega))
      replace B := Lib.hid (B.out.trans (b_d.mono B.out.size))
      clear b_d
      go_wp2_with (first | (refine wpList_of_wp (by rfl) (wp_load_mid 28 _ rfl W2.heap.size 0 rfl (prc (Fp.cX k zs) (Fp.cY k zs) a_u n_u c_u) _ R_u.out D1 D2 D3 ?_)) | (refine wpList_of_wp (by rfl) (wp_load_mid 28 _ rfl W4.heap.size 0 rfl (prc (Fp.cX k zs) (Fp.cY k zs) a_p n_p c_p) _ R_p.out D1 D2 D3 ?_)))
      refine (impl_ShareOk _ _ _ _ _ O_l.out.sl).mono ?_
      rintro e w' ⟨rfl, rfl⟩
      rw [h2]
      go_wp2
      go_ret
      exact ⟨rfl, B.out⟩
    · skip
      have d1 : ((n_l : Int) == ((Fp.plen k : Nat) : Int)) = true := beqT (by omega)
      have d2 : ((n_l : Int) != ((Fp.plen k : Nat) : Int)) = false := by rw [bne, d1]; rfl
      have d3 : (((Fp.plen k : Nat) : Int) == 0) = true := beqT (by omega)
      clear h1 h3 hc LL
      go_wp2_with (first | (refine wpList_of_wp (by rfl) (wp_load_mid 28 _ rfl W2.heap.size 0 rfl (prc (Fp.cX k zs) (Fp.cY k zs) a_u n_u c_u) _ R_u.out D1 D2 D3 ?_)) | (refine wpList_of_wp (by rfl) (wp_load_mid 28 _ rfl W4.heap.size 0 rfl (prc (Fp.cX k zs) (Fp.cY k zs) a_p n_p c_p) _ R_p.out D1 D2 D3 ?_)))
      refine (impl_ProofLen _ _).mono ?_
      rintro e W12 ⟨rfl, b_d⟩
      have Z_W12 : W9.heap.size ≤ W12.heap.size := b_d.size
      replace O_l := Lib.hid (O_l.out.below b_d)
      replace O_w := Lib.hid (O_w.out.below b_d)
      replace O_u := Lib.hid (O_u.out.below b_d)
      replace O_v := Lib.hid (O_v.out.below b_d)
      replace O_p := Lib.hid (O_p.out.below b_d)
      replace R_u := Lib.hid (range_below R_u.out b_d (by omega))
      replace R_p := Lib.hid (range_below R_p.out b_d (by omega))
      replace B := Lib.hid (B.out.trans (b_d.mono B.out.size))
      clear b_d
      go_wp2_with (first | (refine wpList_of_wp (by rfl) (wp_load_mid 28 _ rfl W2.heap.size 0 rfl (prc (Fp.cX k zs) (Fp.cY k zs) a_u n_u c_u) _ R_u.out D1 D2 D3 ?_)) | (refine wpList_of_wp (by rfl) (wp_load_mid 28 _ rfl W4.heap.size 0 rfl (prc (Fp.cX k zs) (Fp.cY k zs) a_p n_p c_p) _ R_p.out D1 D2 D3 ?_)))
      refine (impl_ShareOk _ _ _ _ _ O_l.out.sl).mono ?_
      rintro e w' ⟨rfl, rfl⟩
      rw [h2]
      go_wp2_with (first | (refine wpList_of_wp (by rfl) (wp_load_mid 28 _ rfl W2.heap.size 0 rfl (prc (Fp.cX k zs) (Fp.cY k zs) a_u n_u c_u) _ R_u.out D1 D2 D3 ?_)) | (refine wpList_of_wp (by rfl) (wp_load_mid 28 _ rfl W4.heap.size 0 rfl (prc (Fp.cX k zs) (Fp.cY k zs) a_p n_p c_p) _ R_p.out D1 D2 D3 ?_)))
      refine (impl_ProofLen _ _).mono ?_
      rintro e W13 ⟨rfl, b_d⟩
      have Z_W13 : W12.heap.size ≤ W13.heap.size := b_d.size
      replace O_l := Lib.hid (O_l.out.below b_d)
      replace O_w := Lib.hid (O_w.out.below b_d)
      replace O_u := Lib.hid (O_u.out.below b_d)
      replace O_v := Lib.hid (O_v.out.below b_d)
      replace O_p := Lib.hid (O_p.out.below b_d)
      replace R_u := Lib.hid (range_below R_u.out b_d (by omega))
      replace R_p := Lib.hid (range_below R_p.out b_d (by omega))
      replace B := Lib.hid (B.out.trans (b_d.mono B.out.size))
      clear b_d
      go_wp2
      go_ret
      exact ⟨rfl, B.out⟩
  · skip
    obtain ⟨p1, p2⟩ := cut_all hc
    have C := fun (W : World) (h1 : Sl W a_v n_v (Fp.cV k zs)) (h2 : Sl W a_p n_p (Fp.cH k zs)) (h3 : Err W ea) => impl_ProofAll k a_v n_v c_v (Fp.cV k zs) (Fp.cX k zs) (Fp.cY k zs) a_p n_p c_p (Fp.cH k zs) W ea h3 h1 h2
    rw [p1, p2] at C
    have CC := Lib.hid C
    have ee := eqB_self zs
    have d1 : ((n_l : Int) == ((Fp.plen k : Nat) : Int)) = true := beqT (by have := L_l.out; have := (Fp.cok_iff.1 hc).2.1; omega)
    clear p1 p2 C hc
    go_wp2_with (first | (refine wpList_of_wp (by rfl) (wp_load_mid 28 _ rfl W2.heap.size 0 rfl (prc (Fp.cX k zs) (Fp.cY k zs) a_u n_u c_u) _ R_u.out D1 D2 D3 ?_)) | (refine wpList_of_wp (by rfl) (wp_load_mid 28 _ rfl W4.heap.size 0 rfl (prc (Fp.cX k zs) (Fp.cY k zs) a_p n_p c_p) _ R_p.out D1 D2 D3 ?_)))
    refine (CC.out _ O_v.out.sl O_p.out.sl (HE.out.below B.out)).mono ?_
    rintro e W14 ⟨a_x, n_x, c_x, rfl, o_x, b_x⟩
    have O_x := Lib.hid o_x
    have L_x := Lib.hid o_x.len
    have Z_W14 : W7.heap.size ≤ W14.heap.size := b_x.size
    replace O_l := Lib.hid (O_l.out.below b_x)
    replace O_w := Lib.hid (O_w.out.below b_x)
    replace O_u := Lib.hid (O_u.out.below b_x)
    replace O_v := Lib.hid (O_v.out.below b_x)
    replace O_p := Lib.hid (O_p.out.below b_x)
    replace R_u := Lib.hid (range_below R_u.out b_x (by omega))
    replace R_p := Lib.hid (range_below R_p.out b_x (by omega))
    replace B := Lib.hid (B.out.trans (b_x.mono B.out.size))
    clear o_x b_x
    go_wp2_with (first | (refine wpList_of_wp (by rfl) (wp_load_mid 28 _ rfl W2.heap.size 0 rfl (prc (Fp.cX k zs) (Fp.cY k zs) a_u n_u c_u) _ R_u.out D1 D2 D3 ?_)) | (refine wpList_of_wp (by rfl) (wp_load_mid 28 _ rfl W4.heap.size 0 rfl (prc (Fp.cX k zs) (Fp.cY k zs) a_p n_p c_p) _ R_p.out D1 D2 D3 ?_)))
    refine (laws_loInts _ _ _ _ _ _ _ _ _ O_x.out.sl O_l.out.sl (by have := O_x.out.len; have := L_l.out; omega) (by omega)).mono ?_
    rintro e W15 hd
    obtain ⟨rfl, b_d⟩ := hd.below
    have Z_W15 : W14.heap.size ≤ W15.heap.size := b_d.size
    clear hd
    replace O_l := Lib.hid (O_l.out.below b_d)
    replace O_w := Lib.hid (O_w.out.below b_d)
    replace O_u := Lib.hid (O_u.out.below b_d)
    replace O_v := Lib.hid (O_v.out.below b_d)
    replace O_p := Lib.hid (O_p.out.below b_d)
    replace O_x := Lib.hid (O_x.out.below b_d)
    replace R_u := Lib.hid (range_below R_u.out b_d (by omega))
    replace R_p := Lib.hid (range_below R_p.out b_d (by omega))
    replace B := Lib.hid (B.out.trans (b_d.mono B.out.size))
    clear b_d
    go_wp2_with (first | (refine wpList_of_wp (by rfl) (wp_load_mid 28 _ rfl W2.heap.size 0 rfl (prc (Fp.cX k zs) (Fp.cY k zs) a_u n_u c_u) _ R_u.out D1 D2 D3 ?_)) | (refine wpList_of_wp (by rfl) (wp_load_mid 28 _ rfl W4.heap.size 0 rfl (prc (Fp.cX k zs) (Fp.cY k zs) a_p n_p c_p) _ R_p.out D1 D2 D3 ?_)))
    refine (impl_ProofLen _ _).mono ?_
    rintro e W16 ⟨rfl, b_d⟩
    have Z_W16 : W15.heap.size ≤ W16.heap.size := b_d.size
    replace O_l := Lib.hid (O_l.out.below b_d)
    replace O_w := Lib.hid (O_w.out.below b_d)
    replace O_u := Lib.hid (O_u.out.below b_d)
    replace O_v := Lib.hid (O_v.out.below b_d)
    replace O_p := Lib.hid (O_p.out.below b_d)
    replace O_x := Lib.hid (O_x.out.below b_d)
    replace R_u := Lib.hid (range_below R_u.out b_d (by omega))
    replace R_p := Lib.hid (range_below R_p.out b_d (by omega))
    replace B := Lib.hid (B.out.trans (b_d.mono B.out.size))
    clear b_d
    go_wp2
    go_ret
    exact ⟨rfl, B.out⟩

/-! ### THE ROW's STEP: WRITTEN OUT: LEAVE IT -/
set_option maxRecDepth 100000 in
theorem lifted (os : Os) (started : os.Started) (H : Type) (enc : TypeId × Value → H) :
    ReturnsInHanded {} Tryd.checked os 7 .any (fun w args => (Rows.fnProofCutSpec.pre enc Tryd.prog Tryd.f7 [] false w args ∧ laidMetH Tryd.prog laid1 w) ∧ sizedMet enc Tryd.prog Tryd.f7 (OpenSpec.ofChange Rows.fnProofCutSpec) false w args) (Rows.fnProofCutSpec.post enc Tryd.prog Tryd.f7 false true false false) := by
  refine returnsInHanded_of_change_and (C := Tryd.checked) (X := fun w _ => laidMetH Tryd.prog laid1 w) (fun _ _ _ hh h => h.of_heap hh) own started (by kernel_rfl) Tryd.func7
    (ChangeSpec.witness_shaped (enc := enc) (C := Tryd.checked) (os := os) (X := fun w _ => laidMetH Tryd.prog laid1 w) false (World.doorLaid Tryd.prog 28 os) #[.slice none 0 0] 8 rfl (World.shaped_of_RefB (by kernel_rfl) (by kernel_rfl)) (by kernel_rfl) (by kernel_rfl) (by kernel_rfl) (dr_met os _)) ?_
  intro W base args ds gs before hval0 hW _ _ hL _
  have hval : ∀ (j : Nat) t v, Tryd.f7.params[j]? = some t → args[j]? = some v → Value.okWide Tryd.prog W .any base t v := hval0
  have hW' := hW
  obtain ⟨p, q, hA0, hV, rfl, hfz, hnd⟩ := hW
  have hA : DataW.TrodAll enc Tryd.prog W 0 (fun _ => true) true Tryd.f7.params.toList args.toList ds p := hA0
  rw [Tryd.params7] at hA hval
  obtain ⟨v0, vs0, d0, ds0, p0, q0, hargs, rfl, rfl, h0, r0⟩ := trodAll_cons hA
  obtain ⟨rfl, rfl, rfl⟩ := trodAll_nil r0
  obtain rfl : args = #[v0] := by cases args; simp_all
  obtain ⟨ea, hv, he⟩ := dr_err hL
  have hV' : DataW.TrodVars enc Tryd.prog W (fun _ => true) [errName] gs q := hV
  obtain ⟨rfl, rfl⟩ := hV'.unique (dr_read enc hv _)
  obtain ⟨a0, len0, cap0, rfl⟩ := okWide_slice Tryd.underlying37 (hval 0 37 v0 rfl rfl)
  have k0 := h0
  have lt0 : ∀ x ∈ p0, x.block < W.heap.size := by obtain ⟨m, hm⟩ := k0; exact DataW.trod_lt m _ _ _ hm
  obtain ⟨z0, w0⟩ : ∃ zs, IsRow .u8 W a0 len0 cap0 zs := by
    obtain ⟨fuel, hf⟩ := h0
    rcases open_ints Tryd.underlying37 Tryd.underlying5 (by kernel_rfl) hf with ⟨hcs, _⟩ | ⟨x, l, c, zs, hcs, _, hl, hm, hz, _, hcell, hwz⟩
    · simp [Value.cells] at hcs
      obtain ⟨rfl, rfl, rfl⟩ := hcs
      exact ⟨[], .inl ⟨rfl, rfl, rfl, rfl⟩⟩
    · simp [Value.cells] at hcs
      obtain ⟨rfl, rfl, rfl⟩ := hcs
      exact ⟨zs, .inr ⟨_, rfl, hl, hm, by simpa using hz, hcell, hwz⟩⟩
  clear hA0 hval0
  refine (walk a0 len0 cap0 z0 W w0 ea he).mono fun e W' ⟨hr, bel⟩ => ?_
  subst hr
  exact ⟨_, rfl, _, _, _, [], _, [.cell errNum 0], hW', trodAll_mk1 (shut_bool Tryd.underlying4 _), (trodAll_cons_mk (Below.trod laidOut (by kernel_rfl) (of_decide_eq_true (by kernel_rfl)) k0 bel lt0) trodAll_mk0), dr_read enc (dr_var hv bel) _, bel.frame _, fun h => by cases h⟩

theorem over : Rows.fnProofCutRow.holds Tryd.pinned (OpenSpec.ofChange Rows.fnProofCutSpec) :=
  OpenClaim.holds_of_wide 7 Tryd.f7 rfl rfl rfl rfl rfl rfl rfl ⟨rfl, rfl, rfl, rfl, rfl⟩ rfl rfl rfl rfl rfl (by kernel_rfl) Tryd.func7 (by kernel_rfl)
    (of_decide_eq_true (by kernel_rfl)) (by unfold Func.isWrapper; first | (rw [if_pos (by decide +kernel)]; kernel_rfl) | (rw [if_neg (by decide +kernel)]; exact ⟨rfl, rfl⟩))
    (fun os started H enc _ => lifted os started H enc)

/-- ████ THE STATEMENT ████ -/
theorem proved : Rows.FnProofCutCardSaid :=
  Claim7.holds_tied_plain_at .later [] [.sentinel] true (true, "35e9714a966987399509751047381904ed7b4bef9b6de213f9f4f26ec5229dc5") true
    over (fun _ h => by cases h) (by kernel_rfl) (fun _ h => by cases h) fnProofCut_row_tie rfl ⟨rfl, rfl⟩ (by kernel_rfl) rfl
    (fun f fn hf hfn => by
      obtain rfl : f = 7 := Option.some.inj ((show Tryd.prog.funcNamed "loop.example/scrutineer/laws.FnProofCut" = some 7 by kernel_rfl).symm.trans hf) |>.symm
      obtain rfl : fn = Tryd.f7 := (Option.some.inj (Tryd.func7.symm.trans hfn)).symm
      exact ⟨by kernel_rfl, fun j t ht => by
        rw [Tryd.params7] at ht
        rcases j with _ | j
        · obtain rfl : t = 37 := by simpa using ht.symm
          exact (show Tryd.prog.wantsStandIn 37 = false by kernel_rfl)
        · simp at ht⟩)
    (by kernel_rfl)
#print axioms proved
end Go.Proofs.YtmfmhhopnmglcaaDoor.fnProofCut
