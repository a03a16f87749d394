/-
  The program's ProofCut answers as the model's for every argument, writes into none, and its answer owns its memory: the law FnExactProofCut returns true.
  Conditions: none but the statement's own. Proved: Rows.FnExactProofCutSaid.
-/
import Derived.Test.YtamikccedcffeaaRows
import Derived.WalkKit
import Derived.ProofKit
import Derived.OpenShut
import Derived.ShutString
import Derived.ChangeOld
import Derived.Below
import Derived.Test.YtamikccedcffeaaFp
import Derived.Test.YtamikccedcffeaaBase
import Derived.Test.YtamikccedcffeaaField
import Derived.Test.YtamikccedcffeaaSl
import Derived.Test.YtamikccedcffeaaLw
import Derived.Test.YtamikccedcffeaaPm
import Derived.Test.YtamikccedcffeaaShok
import Derived.Test.YtamikccedcffeaaPn
import Derived.Test.YtamikccedcffeaaPq
import Derived.Test.YtamikccedcffeaaPr
import Derived.Test.YtamikccedcffeaaPoly
import Derived.Test.YtamikccedcffeaaPline
import Derived.Test.YtamikccedcffeaaPmul
import Derived.Test.YtamikccedcffeaaPthr
import Derived.Test.YtamikccedcffeaaPths
import Derived.Test.YtamikccedcffeaaTy
import Derived.Test.YtamikccedcffeaaTym
import Derived.Test.YtamikccedcffeaaTyn
import Derived.Test.YtamikccedcffeaaTys
import Derived.Test.YtamikccedcffeaaCat
import Derived.Test.YtamikccedcffeaaPfp
import Derived.Test.YtamikccedcffeaaPf
import Derived.Test.YtamikccedcffeaaPfs
import Derived.Test.YtamikccedcffeaaPft
import Derived.Test.YtamikccedcffeaaPfl
import Derived.Test.YtamikccedcffeaaScl
import Derived.Test.YtamikccedcffeaaPfc
import Derived.Test.YtamikccedcffeaaPfk
import Derived.Test.YtamikccedcffeaaPfm
namespace Go.Proofs.Ytamikccedcffeaa.fnExactProofCut
open Go.ChangeShapes Go.WideShapes Go.ChangeAt Go.RowKit
open Go.ChangeMaps (open_string shut_string)
set_option linter.unusedVariables false
set_option linter.unusedSimpArgs false

theorem own : ownKnob Try.prog.godebug = none := by kernel_rfl
theorem laidOut : laidOutB Try.prog = true := by kernel_rfl

set_option maxHeartbeats 1000000 in
set_option maxRecDepth 100000 in
theorem walk (a0 : Int) (a1 : Option Addr) (len1 cap1 : Nat) (z1 : List Int) (w : World) (w0 : (Lit.int .i64 a0).wf = true) (w1 : IsRow .i64 w a1 len1 cap1 z1) :
    Calls Try.prog 5 #[.int .i64 a0, .slice a1 len1 cap1] w fun e w' => e = .returned (.bool true) ∧ Below w.heap.size w w' := by
  by_cases hl : 1048576 < len1
  · go_enter Try.func5, Try.ntmps5
    go_wp2
    go_ret
    exact ⟨rfl, Below.refl _ _⟩
  have S0 := Lib.hid (Sl.of_row w1)
  have L0 := Lib.hid S0.out.len
  clear w0 w1
  generalize List.take len1 z1 = zs at S0 L0
  have e1 := eqB_self zs
  have e2 := eqB_self (Fp.cV a0 zs)
  have e3 := eqB_self (Fp.cH a0 zs)
  have pv := Lib.hid (Fp.cV_len a0 zs)
  have ph := Lib.hid (Fp.cH_len a0 zs)
  obtain ⟨d, D1, D2, D3⟩ := prf_desc
  have B := Lib.hid (Below.refl w.heap.size w)
  go_enter Try.func5, Try.ntmps5
  go_wp2_with fail
  refine (laws_toIntS _ _ _ _ _ S0.out (by omega)).mono ?_
  rintro e W1 ⟨a_t, n_t, c_t, rfl, o_t, b_t⟩
  have O_t := Lib.hid o_t
  have L_t := Lib.hid o_t.len
  have Z_W1 : w.heap.size ≤ W1.heap.size := b_t.size
  replace B := Lib.hid (B.out.trans (b_t.mono B.out.size))
  clear o_t b_t
  have h_t : n_t ≤ 1048576 := by rw [← L_t.out, L0.out]; omega
  go_wp2_with fail
  refine (spec_ProofCut _ _ _ _ _ _ O_t.out.sl h_t O_t.out.le O_t.out.lim).mono ?_
  rintro e W2 ⟨a_w, n_w, c_w, a_u, n_u, c_u, rfl, o_w, o_u, b_d⟩
  have Z_W2 : W1.heap.size ≤ W2.heap.size := b_d.size
  have O_w := Lib.hid o_w
  have L_w := Lib.hid o_w.len
  have O_u := Lib.hid o_u
  have L_u := Lib.hid o_u.len
  replace O_t := Lib.hid (O_t.out.below b_d)
  replace B := Lib.hid (B.out.trans (b_d.mono B.out.size))
  clear b_d o_w o_u
  have h_w : n_w ≤ 20 := by rw [← L_w.out]; exact pv.out
  have h_u : n_u ≤ 20 := by rw [← L_u.out]; exact ph.out
  clear O_t
  obtain ⟨A_u, W3, hA_u, nt, hV_u, b_h, r_h, z_h⟩ := prf_hold W2 (Fp.cX a0 zs) (Fp.cY a0 zs) a_u n_u c_u 28
  have NT_u := Lib.hid nt
  have R_u := Lib.hid r_h
  have Z_W3 : W2.heap.size < W3.heap.size := z_h
  replace O_w := Lib.hid (O_w.out.below b_h)
  replace O_u := Lib.hid (O_u.out.below b_h)
  replace B := Lib.hid (B.out.trans (b_h.mono B.out.size))
  clear nt b_h r_h z_h
  go_wp2_with (first | (refine wpList_of_wp (by rfl) (wp_load_mid 28 _ rfl W2.heap.size 0 rfl (prc (Fp.cX a0 zs) (Fp.cY a0 zs) a_u n_u c_u) _ R_u.out D1 D2 D3 ?_)) | (refine wpList_of_wp (by rfl) (wp_store_mid 28 _ _ rfl W2.heap.size 0 (prc (Fp.cX a0 zs) (Fp.cY a0 zs) a_u n_u c_u).toArray rfl rfl NT_u.out D3 (prc_one _ _ _ _ _) ?_); rw [show (prc (Fp.cX a0 zs) (Fp.cY a0 zs) a_u n_u c_u).toArray.toList = prc (Fp.cX a0 zs) (Fp.cY a0 zs) a_u n_u c_u from rfl, hV_u]))
  clear hA_u hV_u NT_u
  refine (laws_toIntS _ _ _ _ _ (S0.out.below B.out) (by omega)).mono ?_
  rintro e W4 ⟨a_x, n_x, c_x, rfl, o_x, b_x⟩
  have O_x := Lib.hid o_x
  have L_x := Lib.hid o_x.len
  have Z_W4 : W3.heap.size ≤ W4.heap.size := b_x.size
  replace O_w := Lib.hid (O_w.out.below b_x)
  replace O_u := Lib.hid (O_u.out.below b_x)
  replace R_u := Lib.hid (range_below R_u.out b_x (by omega))
  replace B := Lib.hid (B.out.trans (b_x.mono B.out.size))
  clear o_x b_x
  have h_x : n_x ≤ 1048576 := by rw [← L_x.out, L0.out]; omega
  go_wp2_with (first | (refine wpList_of_wp (by rfl) (wp_load_mid 28 _ rfl W2.heap.size 0 rfl (prc (Fp.cX a0 zs) (Fp.cY a0 zs) a_u n_u c_u) _ R_u.out D1 D2 D3 ?_)))
  refine (impl_ProofCut _ _ _ _ _ _ O_x.out.sl O_x.out.le O_x.out.lim).mono ?_
  rintro e W5 ⟨m_g, a_g, n_g, c_g, a_p, n_p, c_p, rfl, M_g, M_p, o_g, o_p, b_d⟩
  have Z_W5 : W4.heap.size ≤ W5.heap.size := b_d.size
  have O_g := Lib.hid o_g
  have L_g := Lib.hid o_g.len
  have O_p := Lib.hid o_p
  have L_p := Lib.hid o_p.len
  replace O_w := Lib.hid (O_w.out.below b_d)
  replace O_u := Lib.hid (O_u.out.below b_d)
  replace O_x := Lib.hid (O_x.out.below b_d)
  replace R_u := Lib.hid (range_below R_u.out b_d (by omega))
  replace B := Lib.hid (B.out.trans (b_d.mono B.out.size))
  clear b_d o_g o_p
  have h_g : n_g ≤ 20 := by rw [← L_g.out]; exact pv.out
  have h_p : n_p ≤ 20 := by rw [← L_p.out]; exact ph.out
  obtain ⟨A_p, W6, hA_p, nt, hV_p, b_h, r_h, z_h⟩ := prf_hold W5 (Fp.cX a0 zs) (Fp.cY a0 zs) a_p n_p c_p 28
  have NT_p := Lib.hid nt
  have R_p := Lib.hid r_h
  have Z_W6 : W5.heap.size < W6.heap.size := z_h
  replace O_w := Lib.hid (O_w.out.below b_h)
  replace O_u := Lib.hid (O_u.out.below b_h)
  replace O_x := Lib.hid (O_x.out.below b_h)
  replace O_g := Lib.hid (O_g.out.below b_h)
  replace O_p := Lib.hid (O_p.out.below b_h)
  replace R_u := Lib.hid (range_below R_u.out b_h (by omega))
  replace B := Lib.hid (B.out.trans (b_h.mono B.out.size))
  clear nt b_h r_h z_h
  go_wp2_with (first | (refine wpList_of_wp (by rfl) (wp_load_mid 28 _ rfl W2.heap.size 0 rfl (prc (Fp.cX a0 zs) (Fp.cY a0 zs) a_u n_u c_u) _ R_u.out D1 D2 D3 ?_)) | (refine wpList_of_wp (by rfl) (wp_load_mid 28 _ rfl W5.heap.size 0 rfl (prc (Fp.cX a0 zs) (Fp.cY a0 zs) a_p n_p c_p) _ R_p.out D1 D2 D3 ?_)) | (refine wpList_of_wp (by rfl) (wp_store_mid 28 _ _ rfl W5.heap.size 0 (prc (Fp.cX a0 zs) (Fp.cY a0 zs) a_p n_p c_p).toArray rfl rfl NT_p.out D3 (prc_one _ _ _ _ _) ?_); rw [show (prc (Fp.cX a0 zs) (Fp.cY a0 zs) a_p n_p c_p).toArray.toList = prc (Fp.cX a0 zs) (Fp.cY a0 zs) a_p n_p c_p from rfl, hV_p]))
  clear hA_p hV_p NT_p
  refine (laws_eqIntS _ _ _ _ _ _ _ _ _ O_g.out.sl O_w.out.sl (by omega) (by omega)).mono ?_
  rintro e W7 hd
  obtain ⟨rfl, b_d⟩ := hd.below
  have Z_W7 : W6.heap.size ≤ W7.heap.size := b_d.size
  clear hd
  replace O_w := Lib.hid (O_w.out.below b_d)
  replace O_u := Lib.hid (O_u.out.below b_d)
  replace O_x := Lib.hid (O_x.out.below b_d)
  replace O_g := Lib.hid (O_g.out.below b_d)
  replace O_p := Lib.hid (O_p.out.below b_d)
  replace R_u := Lib.hid (range_below R_u.out b_d (by omega))
  replace R_p := Lib.hid (range_below R_p.out b_d (by omega))
  replace B := Lib.hid (B.out.trans (b_d.mono B.out.size))
  clear b_d
  go_wp2_with (first | (refine wpList_of_wp (by rfl) (wp_load_mid 28 _ rfl W2.heap.size 0 rfl (prc (Fp.cX a0 zs) (Fp.cY a0 zs) a_u n_u c_u) _ R_u.out D1 D2 D3 ?_)) | (refine wpList_of_wp (by rfl) (wp_load_mid 28 _ rfl W5.heap.size 0 rfl (prc (Fp.cX a0 zs) (Fp.cY a0 zs) a_p n_p c_p) _ R_p.out D1 D2 D3 ?_)))
  refine (laws_eqProof _ _ _ _ _ _ _ _ _ _ _ _ _ O_p.out.sl O_u.out.sl rfl rfl (by omega) (by omega)).mono ?_
  rintro e W8 hd
  obtain ⟨rfl, b_d⟩ := hd.below
  have Z_W8 : W7.heap.size ≤ W8.heap.size := b_d.size
  clear hd
  replace O_w := Lib.hid (O_w.out.below b_d)
  replace O_u := Lib.hid (O_u.out.below b_d)
  replace O_x := Lib.hid (O_x.out.below b_d)
  replace O_g := Lib.hid (O_g.out.below b_d)
  replace O_p := Lib.hid (O_p.out.below b_d)
  replace R_u := Lib.hid (range_below R_u.out b_d (by omega))
  replace R_p := Lib.hid (range_below R_p.out b_d (by omega))
  replace B := Lib.hid (B.out.trans (b_d.mono B.out.size))
  clear b_d
  go_wp2_with (first | (refine wpList_of_wp (by rfl) (wp_load_mid 28 _ rfl W2.heap.size 0 rfl (prc (Fp.cX a0 zs) (Fp.cY a0 zs) a_u n_u c_u) _ R_u.out D1 D2 D3 ?_)) | (refine wpList_of_wp (by rfl) (wp_load_mid 28 _ rfl W5.heap.size 0 rfl (prc (Fp.cX a0 zs) (Fp.cY a0 zs) a_p n_p c_p) _ R_p.out D1 D2 D3 ?_)))
  refine (laws_toIntS _ _ _ _ _ (S0.out.below B.out) (by omega)).mono ?_
  rintro e W9 ⟨a_s, n_s, c_s, rfl, o_s, b_s⟩
  have O_s := Lib.hid o_s
  have L_s := Lib.hid o_s.len
  have Z_W9 : W8.heap.size ≤ W9.heap.size := b_s.size
  replace O_w := Lib.hid (O_w.out.below b_s)
  replace O_u := Lib.hid (O_u.out.below b_s)
  replace O_x := Lib.hid (O_x.out.below b_s)
  replace O_g := Lib.hid (O_g.out.below b_s)
  replace O_p := Lib.hid (O_p.out.below b_s)
  replace R_u := Lib.hid (range_below R_u.out b_s (by omega))
  replace R_p := Lib.hid (range_below R_p.out b_s (by omega))
  replace B := Lib.hid (B.out.trans (b_s.mono B.out.size))
  clear o_s b_s
  have h_s : n_s ≤ 1048576 := by rw [← L_s.out, L0.out]; omega
  go_wp2_with (first | (refine wpList_of_wp (by rfl) (wp_load_mid 28 _ rfl W2.heap.size 0 rfl (prc (Fp.cX a0 zs) (Fp.cY a0 zs) a_u n_u c_u) _ R_u.out D1 D2 D3 ?_)) | (refine wpList_of_wp (by rfl) (wp_load_mid 28 _ rfl W5.heap.size 0 rfl (prc (Fp.cX a0 zs) (Fp.cY a0 zs) a_p n_p c_p) _ R_p.out D1 D2 D3 ?_)))
  refine (laws_eqIntS _ _ _ _ _ _ _ _ _ O_x.out.sl O_s.out.sl (by omega) (by omega)).mono ?_
  rintro e W10 hd
  obtain ⟨rfl, b_d⟩ := hd.below
  have Z_W10 : W9.heap.size ≤ W10.heap.size := b_d.size
  clear hd
  replace O_w := Lib.hid (O_w.out.below b_d)
  replace O_u := Lib.hid (O_u.out.below b_d)
  replace O_x := Lib.hid (O_x.out.below b_d)
  replace O_g := Lib.hid (O_g.out.below b_d)
  replace O_p := Lib.hid (O_p.out.below b_d)
  replace O_s := Lib.hid (O_s.out.below b_d)
  replace R_u := Lib.hid (range_below R_u.out b_d (by omega))
  replace R_p := Lib.hid (range_below R_p.out b_d (by omega))
  replace B := Lib.hid (B.out.trans (b_d.mono B.out.size))
  clear b_d
  clear O_s
  go_wp2_with (first | (refine wpList_of_wp (by rfl) (wp_load_mid 28 _ rfl W2.heap.size 0 rfl (prc (Fp.cX a0 zs) (Fp.cY a0 zs) a_u n_u c_u) _ R_u.out D1 D2 D3 ?_)) | (refine wpList_of_wp (by rfl) (wp_load_mid 28 _ rfl W5.heap.size 0 rfl (prc (Fp.cX a0 zs) (Fp.cY a0 zs) a_p n_p c_p) _ R_p.out D1 D2 D3 ?_)))
  refine (laws_markIntS _ _ _ _ _ _ _ _ O_x.out (by omega) (by omega) (by omega)).mono ?_
  rintro e W11 ⟨rfl, o_m, ch, sz⟩
  replace O_w := Lib.hid (O_w.out.keep ch (fun b h1 h2 h3 hp => by have := hp.1; have := hp.2; omega))
  replace O_u := Lib.hid (O_u.out.keep ch (fun b h1 h2 h3 hp => by have := hp.1; have := hp.2; omega))
  replace O_g := Lib.hid (O_g.out.keep ch (fun b h1 h2 h3 hp => by have := hp.1; have := hp.2; omega))
  replace O_p := Lib.hid (O_p.out.keep ch (fun b h1 h2 h3 hp => by have := hp.1; have := hp.2; omega))
  replace R_u := Lib.hid (range_keep R_u.out ch (fun hp => by have := hp.1; have := hp.2; omega))
  replace R_p := Lib.hid (range_keep R_p.out ch (fun hp => by have := hp.1; have := hp.2; omega))
  replace O_x := Lib.hid o_m
  have Z_W11 : W10.heap.size ≤ W11.heap.size := by omega
  replace B := Lib.hid (B.out.trans (ch.below B.out.size (fun k hp => by have := hp.1; omega)))
  clear o_m ch sz
  go_wp2_with (first | (refine wpList_of_wp (by rfl) (wp_load_mid 28 _ rfl W2.heap.size 0 rfl (prc (Fp.cX a0 zs) (Fp.cY a0 zs) a_u n_u c_u) _ R_u.out D1 D2 D3 ?_)) | (refine wpList_of_wp (by rfl) (wp_load_mid 28 _ rfl W5.heap.size 0 rfl (prc (Fp.cX a0 zs) (Fp.cY a0 zs) a_p n_p c_p) _ R_p.out D1 D2 D3 ?_)))
  refine (laws_eqIntS _ _ _ _ _ _ _ _ _ O_g.out.sl O_w.out.sl (by omega) (by omega)).mono ?_
  rintro e W12 hd
  obtain ⟨rfl, b_d⟩ := hd.below
  have Z_W12 : W11.heap.size ≤ W12.heap.size := b_d.size
  clear hd
  replace O_w := Lib.hid (O_w.out.below b_d)
  replace O_u := Lib.hid (O_u.out.below b_d)
  replace O_x := Lib.hid (O_x.out.below b_d)
  replace O_g := Lib.hid (O_g.out.below b_d)
  replace O_p := Lib.hid (O_p.out.below b_d)
  replace R_u := Lib.hid (range_below R_u.out b_d (by omega))
  replace R_p := Lib.hid (range_below R_p.out b_d (by omega))
  replace B := Lib.hid (B.out.trans (b_d.mono B.out.size))
  clear b_d
  go_wp2_with (first | (refine wpList_of_wp (by rfl) (wp_load_mid 28 _ rfl W2.heap.size 0 rfl (prc (Fp.cX a0 zs) (Fp.cY a0 zs) a_u n_u c_u) _ R_u.out D1 D2 D3 ?_)) | (refine wpList_of_wp (by rfl) (wp_load_mid 28 _ rfl W5.heap.size 0 rfl (prc (Fp.cX a0 zs) (Fp.cY a0 zs) a_p n_p c_p) _ R_p.out D1 D2 D3 ?_)))
  refine (laws_eqProof _ _ _ _ _ _ _ _ _ _ _ _ _ O_p.out.sl O_u.out.sl rfl rfl (by omega) (by omega)).mono ?_
  rintro e W13 hd
  obtain ⟨rfl, b_d⟩ := hd.below
  have Z_W13 : W12.heap.size ≤ W13.heap.size := b_d.size
  clear hd
  replace O_w := Lib.hid (O_w.out.below b_d)
  replace O_u := Lib.hid (O_u.out.below b_d)
  replace O_x := Lib.hid (O_x.out.below b_d)
  replace O_g := Lib.hid (O_g.out.below b_d)
  replace O_p := Lib.hid (O_p.out.below b_d)
  replace R_u := Lib.hid (range_below R_u.out b_d (by omega))
  replace R_p := Lib.hid (range_below R_p.out b_d (by omega))
  replace B := Lib.hid (B.out.trans (b_d.mono B.out.size))
  clear b_d
  clear O_x
  go_wp2_with (first | (refine wpList_of_wp (by rfl) (wp_load_mid 28 _ rfl W2.heap.size 0 rfl (prc (Fp.cX a0 zs) (Fp.cY a0 zs) a_u n_u c_u) _ R_u.out D1 D2 D3 ?_)) | (refine wpList_of_wp (by rfl) (wp_load_mid 28 _ rfl W5.heap.size 0 rfl (prc (Fp.cX a0 zs) (Fp.cY a0 zs) a_p n_p c_p) _ R_p.out D1 D2 D3 ?_)))
  refine (laws_markIntS _ _ _ _ _ _ _ _ O_g.out (by omega) (by omega) (by omega)).mono ?_
  rintro e W14 ⟨rfl, o_m, ch, sz⟩
  replace O_w := Lib.hid (O_w.out.keep ch (fun b h1 h2 h3 hp => by have := hp.1; have := hp.2; omega))
  replace O_u := Lib.hid (O_u.out.keep ch (fun b h1 h2 h3 hp => by have := hp.1; have := hp.2; omega))
  replace O_p := Lib.hid (O_p.out.keep ch (fun b h1 h2 h3 hp => by have := hp.1; have := hp.2; omega))
  replace R_u := Lib.hid (range_keep R_u.out ch (fun hp => by have := hp.1; have := hp.2; omega))
  replace R_p := Lib.hid (range_keep R_p.out ch (fun hp => by have := hp.1; have := hp.2; omega))
  replace O_g := Lib.hid o_m
  have Z_W14 : W13.heap.size ≤ W14.heap.size := by omega
  replace B := Lib.hid (B.out.trans (ch.below B.out.size (fun k hp => by have := hp.1; omega)))
  clear o_m ch sz
  go_wp2_with (first | (refine wpList_of_wp (by rfl) (wp_load_mid 28 _ rfl W2.heap.size 0 rfl (prc (Fp.cX a0 zs) (Fp.cY a0 zs) a_u n_u c_u) _ R_u.out D1 D2 D3 ?_)) | (refine wpList_of_wp (by rfl) (wp_load_mid 28 _ rfl W5.heap.size 0 rfl (prc (Fp.cX a0 zs) (Fp.cY a0 zs) a_p n_p c_p) _ R_p.out D1 D2 D3 ?_)))
  refine (laws_markProof _ _ _ _ _ _ _ _ _ _ O_p.out (by omega) (by omega) (by omega)).mono ?_
  rintro e W15 ⟨wb, bb, rfl, o_m, ch, sz⟩
  have zb := bb.size
  replace O_w := Lib.hid ((O_w.out.below bb).keep ch (fun b h1 h2 h3 hp => by have := hp.1; have := hp.2; omega))
  replace O_u := Lib.hid ((O_u.out.below bb).keep ch (fun b h1 h2 h3 hp => by have := hp.1; have := hp.2; omega))
  replace O_g := Lib.hid ((O_g.out.below bb).keep ch (fun b h1 h2 h3 hp => by have := hp.1; have := hp.2; omega))
  replace R_u := Lib.hid (range_keep (range_below R_u.out bb (by omega)) ch (fun hp => by have := hp.1; have := hp.2; omega))
  replace R_p := Lib.hid (range_keep (range_below R_p.out bb (by omega)) ch (fun hp => by have := hp.1; have := hp.2; omega))
  replace O_p := Lib.hid o_m
  have Z_W15 : W14.heap.size ≤ W15.heap.size := by omega
  replace B := Lib.hid ((B.out.trans (bb.mono B.out.size)).trans (ch.below (Nat.le_trans B.out.size bb.size) (fun k hp => by have := hp.1; omega)))
  clear o_m ch sz zb bb wb
  go_wp2_with (first | (refine wpList_of_wp (by rfl) (wp_load_mid 28 _ rfl W2.heap.size 0 rfl (prc (Fp.cX a0 zs) (Fp.cY a0 zs) a_u n_u c_u) _ R_u.out D1 D2 D3 ?_)) | (refine wpList_of_wp (by rfl) (wp_load_mid 28 _ rfl W5.heap.size 0 rfl (prc (Fp.cX a0 zs) (Fp.cY a0 zs) a_p n_p c_p) _ R_p.out D1 D2 D3 ?_)))
  refine (laws_heldIntS _ _ _ _ _ O_g.out.sl (by omega) (by omega) (by omega)).mono ?_
  rintro e w' ⟨rfl, rfl⟩
  go_wp2_with (first | (refine wpList_of_wp (by rfl) (wp_load_mid 28 _ rfl W2.heap.size 0 rfl (prc (Fp.cX a0 zs) (Fp.cY a0 zs) a_u n_u c_u) _ R_u.out D1 D2 D3 ?_)) | (refine wpList_of_wp (by rfl) (wp_load_mid 28 _ rfl W5.heap.size 0 rfl (prc (Fp.cX a0 zs) (Fp.cY a0 zs) a_p n_p c_p) _ R_p.out D1 D2 D3 ?_)))
  refine (laws_heldProof _ _ _ _ _ _ _ O_p.out.sl (by omega) (by omega) (by omega)).mono ?_
  rintro e W16 hd
  obtain ⟨rfl, b_d⟩ := hd.below
  have Z_W16 : W15.heap.size ≤ W16.heap.size := b_d.size
  clear hd
  replace O_w := Lib.hid (O_w.out.below b_d)
  replace O_u := Lib.hid (O_u.out.below b_d)
  replace O_g := Lib.hid (O_g.out.below b_d)
  replace O_p := Lib.hid (O_p.out.below b_d)
  replace R_u := Lib.hid (range_below R_u.out b_d (by omega))
  replace R_p := Lib.hid (range_below R_p.out b_d (by omega))
  replace B := Lib.hid (B.out.trans (b_d.mono B.out.size))
  clear b_d
  go_wp2_with (first | (refine wpList_of_wp (by rfl) (wp_load_mid 28 _ rfl W2.heap.size 0 rfl (prc (Fp.cX a0 zs) (Fp.cY a0 zs) a_u n_u c_u) _ R_u.out D1 D2 D3 ?_)) | (refine wpList_of_wp (by rfl) (wp_load_mid 28 _ rfl W5.heap.size 0 rfl (prc (Fp.cX a0 zs) (Fp.cY a0 zs) a_p n_p c_p) _ R_p.out D1 D2 D3 ?_)))
  refine (laws_toIntS _ _ _ _ _ (S0.out.below B.out) (by omega)).mono ?_
  rintro e W17 ⟨a_q, n_q, c_q, rfl, o_q, b_q⟩
  have O_q := Lib.hid o_q
  have L_q := Lib.hid o_q.len
  have Z_W17 : W16.heap.size ≤ W17.heap.size := b_q.size
  replace O_w := Lib.hid (O_w.out.below b_q)
  replace O_u := Lib.hid (O_u.out.below b_q)
  replace O_g := Lib.hid (O_g.out.below b_q)
  replace O_p := Lib.hid (O_p.out.below b_q)
  replace R_u := Lib.hid (range_below R_u.out b_q (by omega))
  replace R_p := Lib.hid (range_below R_p.out b_q (by omega))
  replace B := Lib.hid (B.out.trans (b_q.mono B.out.size))
  clear o_q b_q
  go_wp2_with (first | (refine wpList_of_wp (by rfl) (wp_load_mid 28 _ rfl W2.heap.size 0 rfl (prc (Fp.cX a0 zs) (Fp.cY a0 zs) a_u n_u c_u) _ R_u.out D1 D2 D3 ?_)) | (refine wpList_of_wp (by rfl) (wp_load_mid 28 _ rfl W5.heap.size 0 rfl (prc (Fp.cX a0 zs) (Fp.cY a0 zs) a_p n_p c_p) _ R_p.out D1 D2 D3 ?_)))
  refine (impl_ProofCut _ _ _ _ _ _ O_q.out.sl O_q.out.le O_q.out.lim).mono ?_
  rintro e W18 ⟨m_h, a_h, n_h, c_h, a_r, n_r, c_r, rfl, M_h, M_r, o_h, o_r, b_d⟩
  have Z_W18 : W17.heap.size ≤ W18.heap.size := b_d.size
  have O_h := Lib.hid o_h
  have L_h := Lib.hid o_h.len
  have O_r := Lib.hid o_r
  have L_r := Lib.hid o_r.len
  replace O_w := Lib.hid (O_w.out.below b_d)
  replace O_u := Lib.hid (O_u.out.below b_d)
  replace O_g := Lib.hid (O_g.out.below b_d)
  replace O_p := Lib.hid (O_p.out.below b_d)
  replace O_q := Lib.hid (O_q.out.below b_d)
  replace R_u := Lib.hid (range_below R_u.out b_d (by omega))
  replace R_p := Lib.hid (range_below R_p.out b_d (by omega))
  replace B := Lib.hid (B.out.trans (b_d.mono B.out.size))
  clear b_d o_h o_r
  have h_h : n_h ≤ 20 := by rw [← L_h.out]; exact pv.out
  have h_r : n_r ≤ 20 := by rw [← L_r.out]; exact ph.out
  obtain ⟨A_r, W19, hA_r, nt, hV_r, b_h, r_h, z_h⟩ := prf_hold W18 (Fp.cX a0 zs) (Fp.cY a0 zs) a_r n_r c_r 28
  have NT_r := Lib.hid nt
  have R_r := Lib.hid r_h
  have Z_W19 : W18.heap.size < W19.heap.size := z_h
  replace O_w := Lib.hid (O_w.out.below b_h)
  replace O_u := Lib.hid (O_u.out.below b_h)
  replace O_g := Lib.hid (O_g.out.below b_h)
  replace O_p := Lib.hid (O_p.out.below b_h)
  replace O_q := Lib.hid (O_q.out.below b_h)
  replace O_h := Lib.hid (O_h.out.below b_h)
  replace O_r := Lib.hid (O_r.out.below b_h)
  replace R_u := Lib.hid (range_below R_u.out b_h (by omega))
  replace R_p := Lib.hid (range_below R_p.out b_h (by omega))
  replace B := Lib.hid (B.out.trans (b_h.mono B.out.size))
  clear nt b_h r_h z_h
  go_wp2_with (first | (refine wpList_of_wp (by rfl) (wp_load_mid 28 _ rfl W2.heap.size 0 rfl (prc (Fp.cX a0 zs) (Fp.cY a0 zs) a_u n_u c_u) _ R_u.out D1 D2 D3 ?_)) | (refine wpList_of_wp (by rfl) (wp_load_mid 28 _ rfl W5.heap.size 0 rfl (prc (Fp.cX a0 zs) (Fp.cY a0 zs) a_p n_p c_p) _ R_p.out D1 D2 D3 ?_)) | (refine wpList_of_wp (by rfl) (wp_load_mid 28 _ rfl W18.heap.size 0 rfl (prc (Fp.cX a0 zs) (Fp.cY a0 zs) a_r n_r c_r) _ R_r.out D1 D2 D3 ?_)) | (refine wpList_of_wp (by rfl) (wp_store_mid 28 _ _ rfl W18.heap.size 0 (prc (Fp.cX a0 zs) (Fp.cY a0 zs) a_r n_r c_r).toArray rfl rfl NT_r.out D3 (prc_one _ _ _ _ _) ?_); rw [show (prc (Fp.cX a0 zs) (Fp.cY a0 zs) a_r n_r c_r).toArray.toList = prc (Fp.cX a0 zs) (Fp.cY a0 zs) a_r n_r c_r from rfl, hV_r]))
  clear hA_r hV_r NT_r
  refine (laws_eqIntS _ _ _ _ _ _ _ _ _ O_h.out.sl O_w.out.sl (by omega) (by omega)).mono ?_
  rintro e W20 hd
  obtain ⟨rfl, b_d⟩ := hd.below
  have Z_W20 : W19.heap.size ≤ W20.heap.size := b_d.size
  clear hd
  replace O_w := Lib.hid (O_w.out.below b_d)
  replace O_u := Lib.hid (O_u.out.below b_d)
  replace O_g := Lib.hid (O_g.out.below b_d)
  replace O_p := Lib.hid (O_p.out.below b_d)
  replace O_q := Lib.hid (O_q.out.below b_d)
  replace O_h := Lib.hid (O_h.out.below b_d)
  replace O_r := Lib.hid (O_r.out.below b_d)
  replace R_u := Lib.hid (range_below R_u.out b_d (by omega))
  replace R_p := Lib.hid (range_below R_p.out b_d (by omega))
  replace R_r := Lib.hid (range_below R_r.out b_d (by omega))
  replace B := Lib.hid (B.out.trans (b_d.mono B.out.size))
  clear b_d
  go_wp2_with (first | (refine wpList_of_wp (by rfl) (wp_load_mid 28 _ rfl W2.heap.size 0 rfl (prc (Fp.cX a0 zs) (Fp.cY a0 zs) a_u n_u c_u) _ R_u.out D1 D2 D3 ?_)) | (refine wpList_of_wp (by rfl) (wp_load_mid 28 _ rfl W5.heap.size 0 rfl (prc (Fp.cX a0 zs) (Fp.cY a0 zs) a_p n_p c_p) _ R_p.out D1 D2 D3 ?_)) | (refine wpList_of_wp (by rfl) (wp_load_mid 28 _ rfl W18.heap.size 0 rfl (prc (Fp.cX a0 zs) (Fp.cY a0 zs) a_r n_r c_r) _ R_r.out D1 D2 D3 ?_)))
  refine (laws_eqProof _ _ _ _ _ _ _ _ _ _ _ _ _ O_r.out.sl O_u.out.sl rfl rfl (by omega) (by omega)).mono ?_
  rintro e W21 hd
  obtain ⟨rfl, b_d⟩ := hd.below
  have Z_W21 : W20.heap.size ≤ W21.heap.size := b_d.size
  clear hd
  replace O_w := Lib.hid (O_w.out.below b_d)
  replace O_u := Lib.hid (O_u.out.below b_d)
  replace O_g := Lib.hid (O_g.out.below b_d)
  replace O_p := Lib.hid (O_p.out.below b_d)
  replace O_q := Lib.hid (O_q.out.below b_d)
  replace O_h := Lib.hid (O_h.out.below b_d)
  replace O_r := Lib.hid (O_r.out.below b_d)
  replace R_u := Lib.hid (range_below R_u.out b_d (by omega))
  replace R_p := Lib.hid (range_below R_p.out b_d (by omega))
  replace R_r := Lib.hid (range_below R_r.out b_d (by omega))
  replace B := Lib.hid (B.out.trans (b_d.mono B.out.size))
  clear b_d
  go_wp2_with (first | (refine wpList_of_wp (by rfl) (wp_load_mid 28 _ rfl W2.heap.size 0 rfl (prc (Fp.cX a0 zs) (Fp.cY a0 zs) a_u n_u c_u) _ R_u.out D1 D2 D3 ?_)) | (refine wpList_of_wp (by rfl) (wp_load_mid 28 _ rfl W5.heap.size 0 rfl (prc (Fp.cX a0 zs) (Fp.cY a0 zs) a_p n_p c_p) _ R_p.out D1 D2 D3 ?_)) | (refine wpList_of_wp (by rfl) (wp_load_mid 28 _ rfl W18.heap.size 0 rfl (prc (Fp.cX a0 zs) (Fp.cY a0 zs) a_r n_r c_r) _ R_r.out D1 D2 D3 ?_)))
  refine (laws_heldIntS _ _ _ _ _ O_g.out.sl (by omega) (by omega) (by omega)).mono ?_
  rintro e w' ⟨rfl, rfl⟩
  go_wp2_with (first | (refine wpList_of_wp (by rfl) (wp_load_mid 28 _ rfl W2.heap.size 0 rfl (prc (Fp.cX a0 zs) (Fp.cY a0 zs) a_u n_u c_u) _ R_u.out D1 D2 D3 ?_)) | (refine wpList_of_wp (by rfl) (wp_load_mid 28 _ rfl W5.heap.size 0 rfl (prc (Fp.cX a0 zs) (Fp.cY a0 zs) a_p n_p c_p) _ R_p.out D1 D2 D3 ?_)) | (refine wpList_of_wp (by rfl) (wp_load_mid 28 _ rfl W18.heap.size 0 rfl (prc (Fp.cX a0 zs) (Fp.cY a0 zs) a_r n_r c_r) _ R_r.out D1 D2 D3 ?_)))
  refine (laws_heldProof _ _ _ _ _ _ _ O_p.out.sl (by omega) (by omega) (by omega)).mono ?_
  rintro e W22 hd
  obtain ⟨rfl, b_d⟩ := hd.below
  have Z_W22 : W21.heap.size ≤ W22.heap.size := b_d.size
  clear hd
  replace O_w := Lib.hid (O_w.out.below b_d)
  replace O_u := Lib.hid (O_u.out.below b_d)
  replace O_g := Lib.hid (O_g.out.below b_d)
  replace O_p := Lib.hid (O_p.out.below b_d)
  replace O_q := Lib.hid (O_q.out.below b_d)
  replace O_h := Lib.hid (O_h.out.below b_d)
  replace O_r := Lib.hid (O_r.out.below b_d)
  replace R_u := Lib.hid (range_below R_u.out b_d (by omega))
  replace R_p := Lib.hid (range_below R_p.out b_d (by omega))
  replace R_r := Lib.hid (range_below R_r.out b_d (by omega))
  replace B := Lib.hid (B.out.trans (b_d.mono B.out.size))
  clear b_d
  go_wp2
  go_ret
  exact ⟨rfl, B.out⟩

/-! ### THE ROW's STEP: WRITTEN OUT: LEAVE IT -/
set_option maxRecDepth 100000 in
theorem lifted (os : Os) (started : os.Started) (H : Type) (enc : TypeId × Value → H) :
    ReturnsInHanded {} Try.checked os 5 .any (Rows.fnExactProofCutSpec.pre6 enc Try.prog Try.f5 Rows.fnExactProofCutRow.domain false) (Rows.fnExactProofCutSpec.post enc Try.prog Try.f5 false true false false) := by
  refine returnsInHanded_of_change (C := Try.checked) own started (by kernel_rfl) Try.func5
    (ChangeSpec.witness6 (enc := enc) (C := Try.checked) false ⟨#[], #[.int .i64 0, .slice none 0 0], []⟩ 8 (by kernel_rfl) (by kernel_rfl) (by kernel_rfl) (by kernel_rfl)) ?_
  intro W base args ds gs before hval0 hW hcnd _
  have hval : ∀ (j : Nat) t v, Try.f5.params[j]? = some t → args[j]? = some v → Value.okWide Try.prog W .any base t v := hval0
  have hW' := hW
  obtain ⟨p, q, hA0, hV, rfl, hfz, hnd⟩ := hW
  have hA : DataW.TrodAll enc Try.prog W 0 (fun _ => true) true Try.f5.params.toList args.toList ds p := hA0
  rw [Try.params5] at hA hval
  obtain ⟨v0, vs0, d0, ds0, p0, q0, hargs, rfl, rfl, h0, r0⟩ := trodAll_cons hA
  obtain ⟨v1, vs1, d1, ds1, p1, q1, rfl, rfl, rfl, h1, r1⟩ := trodAll_cons r0
  obtain ⟨rfl, rfl, rfl⟩ := trodAll_nil r1
  obtain rfl : args = #[v0, v1] := by cases args; simp_all
  obtain ⟨rfl, rfl⟩ := trodVars_none hV
  obtain ⟨a0, rfl, rfl, rfl, w0⟩ := open_int Try.underlying3 (hval 0 3 v0 rfl rfl) h0
  obtain ⟨a1, len1, cap1, rfl⟩ := okWide_slice Try.underlying26 (hval 1 26 v1 rfl rfl)
  have k1 := h1
  have lt1 : ∀ x ∈ p1, x.block < W.heap.size := by obtain ⟨m, hm⟩ := k1; exact DataW.trod_lt m _ _ _ hm
  obtain ⟨z1, w1⟩ : ∃ zs, IsRow .i64 W a1 len1 cap1 zs := by
    obtain ⟨fuel, hf⟩ := h1
    rcases open_ints Try.underlying26 Try.underlying3 (by kernel_rfl) hf with ⟨hcs, _⟩ | ⟨x, l, c, zs, hcs, _, hl, hm, hz, _, hcell, hwz⟩
    · simp [Value.cells] at hcs
      obtain ⟨rfl, rfl, rfl⟩ := hcs
      exact ⟨[], .inl ⟨rfl, rfl, rfl, rfl⟩⟩
    · simp [Value.cells] at hcs
      obtain ⟨rfl, rfl, rfl⟩ := hcs
      exact ⟨zs, .inr ⟨_, rfl, hl, hm, by simpa using hz, hcell, hwz⟩⟩
  clear hA0 hval0
  refine (walk a0 a1 len1 cap1 z1 W w0 w1).mono fun e W' ⟨he, bel⟩ => ?_
  subst he
  exact ⟨_, rfl, _, _, _, [], _, [], hW', trodAll_mk1 (shut_bool Try.underlying4 _), (trodAll_cons_mk (shut_int Try.underlying3 w0) (trodAll_cons_mk (Below.trod laidOut (by kernel_rfl) (of_decide_eq_true (by kernel_rfl)) k1 bel lt1) trodAll_mk0)), rfl, bel.frame _, fun h => by cases h⟩

theorem over : Rows.fnExactProofCutRow.holds Try.pinned (OpenSpec.ofChange Rows.fnExactProofCutSpec) :=
  OpenClaim.holds_of_wide 5 Try.f5 rfl rfl rfl rfl rfl rfl rfl ⟨rfl, rfl, rfl, rfl, rfl⟩ rfl rfl rfl rfl rfl (by kernel_rfl) Try.func5 (by kernel_rfl)
    (of_decide_eq_true (by kernel_rfl)) (by unfold Func.isWrapper; first | (rw [if_pos (by decide +kernel)]; kernel_rfl) | (rw [if_neg (by decide +kernel)]; exact ⟨rfl, rfl⟩))
    (fun os started H enc _ => lifted os started H enc)

/-- ████ THE STATEMENT ████ -/
theorem proved : Rows.FnExactProofCutSaid := over
#print axioms proved
end Go.Proofs.Ytamikccedcffeaa.fnExactProofCut
