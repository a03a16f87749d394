/-
  The program's ProofMake answers as the model's for every argument, writes into none, and its answer owns its memory: the law FnExactProofMake returns true.
  Conditions: none but the statement's own. Proved: Rows.FnExactProofMakeSaid.
-/
import Derived.Test.YtamikccedcffeaaRows
import Derived.WalkKit
import Derived.ProofKit
import Derived.OpenShut
import Derived.ShutString
import Derived.ChangeOld
import Derived.Below
import Derived.Test.YtamikccedcffeaaFp
import Derived.Test.YtamikccedcffeaaBase
import Derived.Test.YtamikccedcffeaaField
import Derived.Test.YtamikccedcffeaaSl
import Derived.Test.YtamikccedcffeaaLw
import Derived.Test.YtamikccedcffeaaPm
import Derived.Test.YtamikccedcffeaaShok
import Derived.Test.YtamikccedcffeaaPn
import Derived.Test.YtamikccedcffeaaPq
import Derived.Test.YtamikccedcffeaaPr
import Derived.Test.YtamikccedcffeaaPoly
import Derived.Test.YtamikccedcffeaaPline
import Derived.Test.YtamikccedcffeaaPmul
import Derived.Test.YtamikccedcffeaaPthr
import Derived.Test.YtamikccedcffeaaPths
import Derived.Test.YtamikccedcffeaaTy
import Derived.Test.YtamikccedcffeaaTym
import Derived.Test.YtamikccedcffeaaTyn
import Derived.Test.YtamikccedcffeaaTys
import Derived.Test.YtamikccedcffeaaCat
import Derived.Test.YtamikccedcffeaaPfp
import Derived.Test.YtamikccedcffeaaPf
import Derived.Test.YtamikccedcffeaaPfs
import Derived.Test.YtamikccedcffeaaPft
import Derived.Test.YtamikccedcffeaaPfx
import Derived.Test.YtamikccedcffeaaPfi
import Derived.Test.YtamikccedcffeaaPfl
namespace Go.Proofs.Ytamikccedcffeaa.fnExactProofMake
open Go.ChangeShapes Go.WideShapes Go.ChangeAt Go.RowKit
open Go.ChangeMaps (open_string shut_string)
set_option linter.unusedVariables false
set_option linter.unusedSimpArgs false

theorem own : ownKnob Try.prog.godebug = none := by kernel_rfl
theorem laidOut : laidOutB Try.prog = true := by kernel_rfl

set_option maxHeartbeats 1000000 in
set_option maxRecDepth 100000 in
theorem walk (a0 : Int) (a1 : Option Addr) (len1 cap1 : Nat) (z1 : List Int) (a2 : Int) (a3 : Int) (w : World) (w0 : (Lit.int .i64 a0).wf = true) (w1 : IsRow .i64 w a1 len1 cap1 z1) (w2 : (Lit.int .i64 a2).wf = true) (w3 : (Lit.int .i64 a3).wf = true) :
    Calls Try.prog 4 #[.int .i64 a0, .slice a1 len1 cap1, .int .i64 a2, .int .i64 a3] w fun e w' => e = .returned (.bool true) ∧ Below w.heap.size w w' := by
  by_cases hl : 1048576 < len1
  · go_enter Try.func4, Try.ntmps4
    go_wp2
    go_ret
    exact ⟨rfl, Below.refl _ _⟩
  have S0 := Lib.hid (Sl.of_row w1)
  have L0 := Lib.hid S0.out.len
  clear w0 w1 w2 w3
  generalize List.take len1 z1 = zs at S0 L0
  have e1 := eqB_self zs
  have e2 := eqB_self (Fp.pH a0 zs a2 a3)
  have pl := Lib.hid (Fp.pH_len a0 zs a2 a3)
  obtain ⟨d, D1, D2, D3⟩ := prf_desc
  have B := Lib.hid (Below.refl w.heap.size w)
  go_enter Try.func4, Try.ntmps4
  go_wp2_with fail
  refine (laws_toIntS _ _ _ _ _ S0.out (by omega)).mono ?_
  rintro e W1 ⟨a_p, n_p, c_p, rfl, o_p, b_p⟩
  have O_p := Lib.hid o_p
  have L_p := Lib.hid o_p.len
  have Z_W1 : w.heap.size ≤ W1.heap.size := b_p.size
  replace B := Lib.hid (B.out.trans (b_p.mono B.out.size))
  clear o_p b_p
  have h_p : n_p ≤ 1048576 := by rw [← L_p.out, L0.out]; omega
  go_wp2_with fail
  refine (spec_ProofMake _ _ _ _ _ _ _ _ O_p.out.sl h_p).mono ?_
  rintro e W2 ⟨a_w, n_w, c_w, rfl, o_w, b_w⟩
  have O_w := Lib.hid o_w
  have L_w := Lib.hid o_w.len
  have Z_W2 : W1.heap.size ≤ W2.heap.size := b_w.size
  replace O_p := Lib.hid (O_p.out.below b_w)
  replace B := Lib.hid (B.out.trans (b_w.mono B.out.size))
  clear o_w b_w
  have h_w : n_w ≤ 9 := by rw [← L_w.out]; exact pl.out
  clear O_p
  obtain ⟨A_w, W3, hA_w, nt, hV_w, b_h, r_h, z_h⟩ := prf_hold W2 (Fp.pU a0 zs a2 a3) (Fp.pV a0 zs a2 a3) a_w n_w c_w 28
  have NT_w := Lib.hid nt
  have R_w := Lib.hid r_h
  have Z_W3 : W2.heap.size < W3.heap.size := z_h
  replace O_w := Lib.hid (O_w.out.below b_h)
  replace B := Lib.hid (B.out.trans (b_h.mono B.out.size))
  clear nt b_h r_h z_h
  go_wp2_with (first | (refine wpList_of_wp (by rfl) (wp_load_mid 28 _ rfl W2.heap.size 0 rfl (prc (Fp.pU a0 zs a2 a3) (Fp.pV a0 zs a2 a3) a_w n_w c_w) _ R_w.out D1 D2 D3 ?_)) | (refine wpList_of_wp (by rfl) (wp_store_mid 28 _ _ rfl W2.heap.size 0 (prc (Fp.pU a0 zs a2 a3) (Fp.pV a0 zs a2 a3) a_w n_w c_w).toArray rfl rfl NT_w.out D3 (prc_one _ _ _ _ _) ?_); rw [show (prc (Fp.pU a0 zs a2 a3) (Fp.pV a0 zs a2 a3) a_w n_w c_w).toArray.toList = prc (Fp.pU a0 zs a2 a3) (Fp.pV a0 zs a2 a3) a_w n_w c_w from rfl, hV_w]))
  clear hA_w hV_w NT_w
  refine (laws_toIntS _ _ _ _ _ (S0.out.below B.out) (by omega)).mono ?_
  rintro e W4 ⟨a_x, n_x, c_x, rfl, o_x, b_x⟩
  have O_x := Lib.hid o_x
  have L_x := Lib.hid o_x.len
  have Z_W4 : W3.heap.size ≤ W4.heap.size := b_x.size
  replace O_w := Lib.hid (O_w.out.below b_x)
  replace R_w := Lib.hid (range_below R_w.out b_x (by omega))
  replace B := Lib.hid (B.out.trans (b_x.mono B.out.size))
  clear o_x b_x
  have h_x : n_x ≤ 1048576 := by rw [← L_x.out, L0.out]; omega
  go_wp2_with (first | (refine wpList_of_wp (by rfl) (wp_load_mid 28 _ rfl W2.heap.size 0 rfl (prc (Fp.pU a0 zs a2 a3) (Fp.pV a0 zs a2 a3) a_w n_w c_w) _ R_w.out D1 D2 D3 ?_)))
  refine (impl_ProofMake _ _ _ _ _ _ _ _ O_x.out.sl).mono ?_
  rintro e W5 ⟨a_g, n_g, c_g, rfl, o_g, b_g⟩
  have O_g := Lib.hid o_g
  have L_g := Lib.hid o_g.len
  have Z_W5 : W4.heap.size ≤ W5.heap.size := b_g.size
  replace O_w := Lib.hid (O_w.out.below b_g)
  replace O_x := Lib.hid (O_x.out.below b_g)
  replace R_w := Lib.hid (range_below R_w.out b_g (by omega))
  replace B := Lib.hid (B.out.trans (b_g.mono B.out.size))
  clear o_g b_g
  have h_g : n_g ≤ 9 := by rw [← L_g.out]; exact pl.out
  obtain ⟨A_g, W6, hA_g, nt, hV_g, b_h, r_h, z_h⟩ := prf_hold W5 (Fp.pU a0 zs a2 a3) (Fp.pV a0 zs a2 a3) a_g n_g c_g 28
  have NT_g := Lib.hid nt
  have R_g := Lib.hid r_h
  have Z_W6 : W5.heap.size < W6.heap.size := z_h
  replace O_w := Lib.hid (O_w.out.below b_h)
  replace O_x := Lib.hid (O_x.out.below b_h)
  replace O_g := Lib.hid (O_g.out.below b_h)
  replace R_w := Lib.hid (range_below R_w.out b_h (by omega))
  replace B := Lib.hid (B.out.trans (b_h.mono B.out.size))
  clear nt b_h r_h z_h
  go_wp2_with (first | (refine wpList_of_wp (by rfl) (wp_load_mid 28 _ rfl W2.heap.size 0 rfl (prc (Fp.pU a0 zs a2 a3) (Fp.pV a0 zs a2 a3) a_w n_w c_w) _ R_w.out D1 D2 D3 ?_)) | (refine wpList_of_wp (by rfl) (wp_load_mid 28 _ rfl W5.heap.size 0 rfl (prc (Fp.pU a0 zs a2 a3) (Fp.pV a0 zs a2 a3) a_g n_g c_g) _ R_g.out D1 D2 D3 ?_)) | (refine wpList_of_wp (by rfl) (wp_store_mid 28 _ _ rfl W5.heap.size 0 (prc (Fp.pU a0 zs a2 a3) (Fp.pV a0 zs a2 a3) a_g n_g c_g).toArray rfl rfl NT_g.out D3 (prc_one _ _ _ _ _) ?_); rw [show (prc (Fp.pU a0 zs a2 a3) (Fp.pV a0 zs a2 a3) a_g n_g c_g).toArray.toList = prc (Fp.pU a0 zs a2 a3) (Fp.pV a0 zs a2 a3) a_g n_g c_g from rfl, hV_g]))
  clear hA_g hV_g NT_g
  refine (laws_eqProof _ _ _ _ _ _ _ _ _ _ _ _ _ O_g.out.sl O_w.out.sl rfl rfl (by omega) (by omega)).mono ?_
  rintro e W7 hd
  obtain ⟨rfl, b_d⟩ := hd.below
  have Z_W7 : W6.heap.size ≤ W7.heap.size := b_d.size
  clear hd
  replace O_w := Lib.hid (O_w.out.below b_d)
  replace O_x := Lib.hid (O_x.out.below b_d)
  replace O_g := Lib.hid (O_g.out.below b_d)
  replace R_w := Lib.hid (range_below R_w.out b_d (by omega))
  replace R_g := Lib.hid (range_below R_g.out b_d (by omega))
  replace B := Lib.hid (B.out.trans (b_d.mono B.out.size))
  clear b_d
  go_wp2_with (first | (refine wpList_of_wp (by rfl) (wp_load_mid 28 _ rfl W2.heap.size 0 rfl (prc (Fp.pU a0 zs a2 a3) (Fp.pV a0 zs a2 a3) a_w n_w c_w) _ R_w.out D1 D2 D3 ?_)) | (refine wpList_of_wp (by rfl) (wp_load_mid 28 _ rfl W5.heap.size 0 rfl (prc (Fp.pU a0 zs a2 a3) (Fp.pV a0 zs a2 a3) a_g n_g c_g) _ R_g.out D1 D2 D3 ?_)))
  refine (laws_toIntS _ _ _ _ _ (S0.out.below B.out) (by omega)).mono ?_
  rintro e W8 ⟨a_s, n_s, c_s, rfl, o_s, b_s⟩
  have O_s := Lib.hid o_s
  have L_s := Lib.hid o_s.len
  have Z_W8 : W7.heap.size ≤ W8.heap.size := b_s.size
  replace O_w := Lib.hid (O_w.out.below b_s)
  replace O_x := Lib.hid (O_x.out.below b_s)
  replace O_g := Lib.hid (O_g.out.below b_s)
  replace R_w := Lib.hid (range_below R_w.out b_s (by omega))
  replace R_g := Lib.hid (range_below R_g.out b_s (by omega))
  replace B := Lib.hid (B.out.trans (b_s.mono B.out.size))
  clear o_s b_s
  have h_s : n_s ≤ 1048576 := by rw [← L_s.out, L0.out]; omega
  go_wp2_with (first | (refine wpList_of_wp (by rfl) (wp_load_mid 28 _ rfl W2.heap.size 0 rfl (prc (Fp.pU a0 zs a2 a3) (Fp.pV a0 zs a2 a3) a_w n_w c_w) _ R_w.out D1 D2 D3 ?_)) | (refine wpList_of_wp (by rfl) (wp_load_mid 28 _ rfl W5.heap.size 0 rfl (prc (Fp.pU a0 zs a2 a3) (Fp.pV a0 zs a2 a3) a_g n_g c_g) _ R_g.out D1 D2 D3 ?_)))
  refine (laws_eqIntS _ _ _ _ _ _ _ _ _ O_x.out.sl O_s.out.sl (by omega) (by omega)).mono ?_
  rintro e W9 hd
  obtain ⟨rfl, b_d⟩ := hd.below
  have Z_W9 : W8.heap.size ≤ W9.heap.size := b_d.size
  clear hd
  replace O_w := Lib.hid (O_w.out.below b_d)
  replace O_x := Lib.hid (O_x.out.below b_d)
  replace O_g := Lib.hid (O_g.out.below b_d)
  replace O_s := Lib.hid (O_s.out.below b_d)
  replace R_w := Lib.hid (range_below R_w.out b_d (by omega))
  replace R_g := Lib.hid (range_below R_g.out b_d (by omega))
  replace B := Lib.hid (B.out.trans (b_d.mono B.out.size))
  clear b_d
  clear O_s
  go_wp2_with (first | (refine wpList_of_wp (by rfl) (wp_load_mid 28 _ rfl W2.heap.size 0 rfl (prc (Fp.pU a0 zs a2 a3) (Fp.pV a0 zs a2 a3) a_w n_w c_w) _ R_w.out D1 D2 D3 ?_)) | (refine wpList_of_wp (by rfl) (wp_load_mid 28 _ rfl W5.heap.size 0 rfl (prc (Fp.pU a0 zs a2 a3) (Fp.pV a0 zs a2 a3) a_g n_g c_g) _ R_g.out D1 D2 D3 ?_)))
  refine (laws_markIntS _ _ _ _ _ _ _ _ O_x.out (by omega) (by omega) (by omega)).mono ?_
  rintro e W10 ⟨rfl, o_m, ch, sz⟩
  replace O_w := Lib.hid (O_w.out.keep ch (fun b h1 h2 h3 hp => by have := hp.1; have := hp.2; omega))
  replace O_g := Lib.hid (O_g.out.keep ch (fun b h1 h2 h3 hp => by have := hp.1; have := hp.2; omega))
  replace R_w := Lib.hid (range_keep R_w.out ch (fun hp => by have := hp.1; have := hp.2; omega))
  replace R_g := Lib.hid (range_keep R_g.out ch (fun hp => by have := hp.1; have := hp.2; omega))
  replace O_x := Lib.hid o_m
  have Z_W10 : W9.heap.size ≤ W10.heap.size := by omega
  replace B := Lib.hid (B.out.trans (ch.below B.out.size (fun k hp => by have := hp.1; omega)))
  clear o_m ch sz
  go_wp2_with (first | (refine wpList_of_wp (by rfl) (wp_load_mid 28 _ rfl W2.heap.size 0 rfl (prc (Fp.pU a0 zs a2 a3) (Fp.pV a0 zs a2 a3) a_w n_w c_w) _ R_w.out D1 D2 D3 ?_)) | (refine wpList_of_wp (by rfl) (wp_load_mid 28 _ rfl W5.heap.size 0 rfl (prc (Fp.pU a0 zs a2 a3) (Fp.pV a0 zs a2 a3) a_g n_g c_g) _ R_g.out D1 D2 D3 ?_)))
  refine (laws_eqProof _ _ _ _ _ _ _ _ _ _ _ _ _ O_g.out.sl O_w.out.sl rfl rfl (by omega) (by omega)).mono ?_
  rintro e W11 hd
  obtain ⟨rfl, b_d⟩ := hd.below
  have Z_W11 : W10.heap.size ≤ W11.heap.size := b_d.size
  clear hd
  replace O_w := Lib.hid (O_w.out.below b_d)
  replace O_x := Lib.hid (O_x.out.below b_d)
  replace O_g := Lib.hid (O_g.out.below b_d)
  replace R_w := Lib.hid (range_below R_w.out b_d (by omega))
  replace R_g := Lib.hid (range_below R_g.out b_d (by omega))
  replace B := Lib.hid (B.out.trans (b_d.mono B.out.size))
  clear b_d
  clear O_x
  go_wp2_with (first | (refine wpList_of_wp (by rfl) (wp_load_mid 28 _ rfl W2.heap.size 0 rfl (prc (Fp.pU a0 zs a2 a3) (Fp.pV a0 zs a2 a3) a_w n_w c_w) _ R_w.out D1 D2 D3 ?_)) | (refine wpList_of_wp (by rfl) (wp_load_mid 28 _ rfl W5.heap.size 0 rfl (prc (Fp.pU a0 zs a2 a3) (Fp.pV a0 zs a2 a3) a_g n_g c_g) _ R_g.out D1 D2 D3 ?_)))
  refine (laws_markProof _ _ _ _ _ _ _ _ _ _ O_g.out (by omega) (by omega) (by omega)).mono ?_
  rintro e W12 ⟨wb, bb, rfl, o_m, ch, sz⟩
  have zb := bb.size
  replace O_w := Lib.hid ((O_w.out.below bb).keep ch (fun b h1 h2 h3 hp => by have := hp.1; have := hp.2; omega))
  replace R_w := Lib.hid (range_keep (range_below R_w.out bb (by omega)) ch (fun hp => by have := hp.1; have := hp.2; omega))
  replace R_g := Lib.hid (range_keep (range_below R_g.out bb (by omega)) ch (fun hp => by have := hp.1; have := hp.2; omega))
  replace O_g := Lib.hid o_m
  have Z_W12 : W11.heap.size ≤ W12.heap.size := by omega
  replace B := Lib.hid ((B.out.trans (bb.mono B.out.size)).trans (ch.below (Nat.le_trans B.out.size bb.size) (fun k hp => by have := hp.1; omega)))
  clear o_m ch sz zb bb wb
  go_wp2_with (first | (refine wpList_of_wp (by rfl) (wp_load_mid 28 _ rfl W2.heap.size 0 rfl (prc (Fp.pU a0 zs a2 a3) (Fp.pV a0 zs a2 a3) a_w n_w c_w) _ R_w.out D1 D2 D3 ?_)) | (refine wpList_of_wp (by rfl) (wp_load_mid 28 _ rfl W5.heap.size 0 rfl (prc (Fp.pU a0 zs a2 a3) (Fp.pV a0 zs a2 a3) a_g n_g c_g) _ R_g.out D1 D2 D3 ?_)))
  refine (laws_heldProof _ _ _ _ _ _ _ O_g.out.sl (by omega) (by omega) (by omega)).mono ?_
  rintro e W13 hd
  obtain ⟨rfl, b_d⟩ := hd.below
  have Z_W13 : W12.heap.size ≤ W13.heap.size := b_d.size
  clear hd
  replace O_w := Lib.hid (O_w.out.below b_d)
  replace O_g := Lib.hid (O_g.out.below b_d)
  replace R_w := Lib.hid (range_below R_w.out b_d (by omega))
  replace R_g := Lib.hid (range_below R_g.out b_d (by omega))
  replace B := Lib.hid (B.out.trans (b_d.mono B.out.size))
  clear b_d
  go_wp2_with (first | (refine wpList_of_wp (by rfl) (wp_load_mid 28 _ rfl W2.heap.size 0 rfl (prc (Fp.pU a0 zs a2 a3) (Fp.pV a0 zs a2 a3) a_w n_w c_w) _ R_w.out D1 D2 D3 ?_)) | (refine wpList_of_wp (by rfl) (wp_load_mid 28 _ rfl W5.heap.size 0 rfl (prc (Fp.pU a0 zs a2 a3) (Fp.pV a0 zs a2 a3) a_g n_g c_g) _ R_g.out D1 D2 D3 ?_)))
  refine (laws_toIntS _ _ _ _ _ (S0.out.below B.out) (by omega)).mono ?_
  rintro e W14 ⟨a_u, n_u, c_u, rfl, o_u, b_u⟩
  have O_u := Lib.hid o_u
  have L_u := Lib.hid o_u.len
  have Z_W14 : W13.heap.size ≤ W14.heap.size := b_u.size
  replace O_w := Lib.hid (O_w.out.below b_u)
  replace O_g := Lib.hid (O_g.out.below b_u)
  replace R_w := Lib.hid (range_below R_w.out b_u (by omega))
  replace R_g := Lib.hid (range_below R_g.out b_u (by omega))
  replace B := Lib.hid (B.out.trans (b_u.mono B.out.size))
  clear o_u b_u
  go_wp2_with (first | (refine wpList_of_wp (by rfl) (wp_load_mid 28 _ rfl W2.heap.size 0 rfl (prc (Fp.pU a0 zs a2 a3) (Fp.pV a0 zs a2 a3) a_w n_w c_w) _ R_w.out D1 D2 D3 ?_)) | (refine wpList_of_wp (by rfl) (wp_load_mid 28 _ rfl W5.heap.size 0 rfl (prc (Fp.pU a0 zs a2 a3) (Fp.pV a0 zs a2 a3) a_g n_g c_g) _ R_g.out D1 D2 D3 ?_)))
  refine (impl_ProofMake _ _ _ _ _ _ _ _ O_u.out.sl).mono ?_
  rintro e W15 ⟨a_h, n_h, c_h, rfl, o_h, b_h⟩
  have O_h := Lib.hid o_h
  have L_h := Lib.hid o_h.len
  have Z_W15 : W14.heap.size ≤ W15.heap.size := b_h.size
  replace O_w := Lib.hid (O_w.out.below b_h)
  replace O_g := Lib.hid (O_g.out.below b_h)
  replace O_u := Lib.hid (O_u.out.below b_h)
  replace R_w := Lib.hid (range_below R_w.out b_h (by omega))
  replace R_g := Lib.hid (range_below R_g.out b_h (by omega))
  replace B := Lib.hid (B.out.trans (b_h.mono B.out.size))
  clear o_h b_h
  have h_h : n_h ≤ 9 := by rw [← L_h.out]; exact pl.out
  obtain ⟨A_h, W16, hA_h, nt, hV_h, b_h, r_h, z_h⟩ := prf_hold W15 (Fp.pU a0 zs a2 a3) (Fp.pV a0 zs a2 a3) a_h n_h c_h 28
  have NT_h := Lib.hid nt
  have R_h := Lib.hid r_h
  have Z_W16 : W15.heap.size < W16.heap.size := z_h
  replace O_w := Lib.hid (O_w.out.below b_h)
  replace O_g := Lib.hid (O_g.out.below b_h)
  replace O_u := Lib.hid (O_u.out.below b_h)
  replace O_h := Lib.hid (O_h.out.below b_h)
  replace R_w := Lib.hid (range_below R_w.out b_h (by omega))
  replace R_g := Lib.hid (range_below R_g.out b_h (by omega))
  replace B := Lib.hid (B.out.trans (b_h.mono B.out.size))
  clear nt b_h r_h z_h
  go_wp2_with (first | (refine wpList_of_wp (by rfl) (wp_load_mid 28 _ rfl W2.heap.size 0 rfl (prc (Fp.pU a0 zs a2 a3) (Fp.pV a0 zs a2 a3) a_w n_w c_w) _ R_w.out D1 D2 D3 ?_)) | (refine wpList_of_wp (by rfl) (wp_load_mid 28 _ rfl W5.heap.size 0 rfl (prc (Fp.pU a0 zs a2 a3) (Fp.pV a0 zs a2 a3) a_g n_g c_g) _ R_g.out D1 D2 D3 ?_)) | (refine wpList_of_wp (by rfl) (wp_load_mid 28 _ rfl W15.heap.size 0 rfl (prc (Fp.pU a0 zs a2 a3) (Fp.pV a0 zs a2 a3) a_h n_h c_h) _ R_h.out D1 D2 D3 ?_)) | (refine wpList_of_wp (by rfl) (wp_store_mid 28 _ _ rfl W15.heap.size 0 (prc (Fp.pU a0 zs a2 a3) (Fp.pV a0 zs a2 a3) a_h n_h c_h).toArray rfl rfl NT_h.out D3 (prc_one _ _ _ _ _) ?_); rw [show (prc (Fp.pU a0 zs a2 a3) (Fp.pV a0 zs a2 a3) a_h n_h c_h).toArray.toList = prc (Fp.pU a0 zs a2 a3) (Fp.pV a0 zs a2 a3) a_h n_h c_h from rfl, hV_h]))
  clear hA_h hV_h NT_h
  refine (laws_eqProof _ _ _ _ _ _ _ _ _ _ _ _ _ O_h.out.sl O_w.out.sl rfl rfl (by omega) (by omega)).mono ?_
  rintro e W17 hd
  obtain ⟨rfl, b_d⟩ := hd.below
  have Z_W17 : W16.heap.size ≤ W17.heap.size := b_d.size
  clear hd
  replace O_w := Lib.hid (O_w.out.below b_d)
  replace O_g := Lib.hid (O_g.out.below b_d)
  replace O_u := Lib.hid (O_u.out.below b_d)
  replace O_h := Lib.hid (O_h.out.below b_d)
  replace R_w := Lib.hid (range_below R_w.out b_d (by omega))
  replace R_g := Lib.hid (range_below R_g.out b_d (by omega))
  replace R_h := Lib.hid (range_below R_h.out b_d (by omega))
  replace B := Lib.hid (B.out.trans (b_d.mono B.out.size))
  clear b_d
  go_wp2_with (first | (refine wpList_of_wp (by rfl) (wp_load_mid 28 _ rfl W2.heap.size 0 rfl (prc (Fp.pU a0 zs a2 a3) (Fp.pV a0 zs a2 a3) a_w n_w c_w) _ R_w.out D1 D2 D3 ?_)) | (refine wpList_of_wp (by rfl) (wp_load_mid 28 _ rfl W5.heap.size 0 rfl (prc (Fp.pU a0 zs a2 a3) (Fp.pV a0 zs a2 a3) a_g n_g c_g) _ R_g.out D1 D2 D3 ?_)) | (refine wpList_of_wp (by rfl) (wp_load_mid 28 _ rfl W15.heap.size 0 rfl (prc (Fp.pU a0 zs a2 a3) (Fp.pV a0 zs a2 a3) a_h n_h c_h) _ R_h.out D1 D2 D3 ?_)))
  refine (laws_heldProof _ _ _ _ _ _ _ O_g.out.sl (by omega) (by omega) (by omega)).mono ?_
  rintro e W18 hd
  obtain ⟨rfl, b_d⟩ := hd.below
  have Z_W18 : W17.heap.size ≤ W18.heap.size := b_d.size
  clear hd
  replace O_w := Lib.hid (O_w.out.below b_d)
  replace O_g := Lib.hid (O_g.out.below b_d)
  replace O_u := Lib.hid (O_u.out.below b_d)
  replace O_h := Lib.hid (O_h.out.below b_d)
  replace R_w := Lib.hid (range_below R_w.out b_d (by omega))
  replace R_g := Lib.hid (range_below R_g.out b_d (by omega))
  replace R_h := Lib.hid (range_below R_h.out b_d (by omega))
  replace B := Lib.hid (B.out.trans (b_d.mono B.out.size))
  clear b_d
  go_wp2
  go_ret
  exact ⟨rfl, B.out⟩

/-! ### THE ROW's STEP: WRITTEN OUT: LEAVE IT -/
set_option maxRecDepth 100000 in
theorem lifted (os : Os) (started : os.Started) (H : Type) (enc : TypeId × Value → H) :
    ReturnsInHanded {} Try.checked os 4 .any (Rows.fnExactProofMakeSpec.pre6 enc Try.prog Try.f4 Rows.fnExactProofMakeRow.domain false) (Rows.fnExactProofMakeSpec.post enc Try.prog Try.f4 false true false false) := by
  refine returnsInHanded_of_change (C := Try.checked) own started (by kernel_rfl) Try.func4
    (ChangeSpec.witness6 (enc := enc) (C := Try.checked) false ⟨#[], #[.int .i64 0, .slice none 0 0, .int .i64 0, .int .i64 0], []⟩ 8 (by kernel_rfl) (by kernel_rfl) (by kernel_rfl) (by kernel_rfl)) ?_
  intro W base args ds gs before hval0 hW hcnd _
  have hval : ∀ (j : Nat) t v, Try.f4.params[j]? = some t → args[j]? = some v → Value.okWide Try.prog W .any base t v := hval0
  have hW' := hW
  obtain ⟨p, q, hA0, hV, rfl, hfz, hnd⟩ := hW
  have hA : DataW.TrodAll enc Try.prog W 0 (fun _ => true) true Try.f4.params.toList args.toList ds p := hA0
  rw [Try.params4] at hA hval
  obtain ⟨v0, vs0, d0, ds0, p0, q0, hargs, rfl, rfl, h0, r0⟩ := trodAll_cons hA
  obtain ⟨v1, vs1, d1, ds1, p1, q1, rfl, rfl, rfl, h1, r1⟩ := trodAll_cons r0
  obtain ⟨v2, vs2, d2, ds2, p2, q2, rfl, rfl, rfl, h2, r2⟩ := trodAll_cons r1
  obtain ⟨v3, vs3, d3, ds3, p3, q3, rfl, rfl, rfl, h3, r3⟩ := trodAll_cons r2
  obtain ⟨rfl, rfl, rfl⟩ := trodAll_nil r3
  obtain rfl : args = #[v0, v1, v2, v3] := by cases args; simp_all
  obtain ⟨rfl, rfl⟩ := trodVars_none hV
  obtain ⟨a0, rfl, rfl, rfl, w0⟩ := open_int Try.underlying3 (hval 0 3 v0 rfl rfl) h0
  obtain ⟨a1, len1, cap1, rfl⟩ := okWide_slice Try.underlying26 (hval 1 26 v1 rfl rfl)
  have k1 := h1
  have lt1 : ∀ x ∈ p1, x.block < W.heap.size := by obtain ⟨m, hm⟩ := k1; exact DataW.trod_lt m _ _ _ hm
  obtain ⟨z1, w1⟩ : ∃ zs, IsRow .i64 W a1 len1 cap1 zs := by
    obtain ⟨fuel, hf⟩ := h1
    rcases open_ints Try.underlying26 Try.underlying3 (by kernel_rfl) hf with ⟨hcs, _⟩ | ⟨x, l, c, zs, hcs, _, hl, hm, hz, _, hcell, hwz⟩
    · simp [Value.cells] at hcs
      obtain ⟨rfl, rfl, rfl⟩ := hcs
      exact ⟨[], .inl ⟨rfl, rfl, rfl, rfl⟩⟩
    · simp [Value.cells] at hcs
      obtain ⟨rfl, rfl, rfl⟩ := hcs
      exact ⟨zs, .inr ⟨_, rfl, hl, hm, by simpa using hz, hcell, hwz⟩⟩
  obtain ⟨a2, rfl, rfl, rfl, w2⟩ := open_int Try.underlying3 (hval 2 3 v2 rfl rfl) h2
  obtain ⟨a3, rfl, rfl, rfl, w3⟩ := open_int Try.underlying3 (hval 3 3 v3 rfl rfl) h3
  clear hA0 hval0
  refine (walk a0 a1 len1 cap1 z1 a2 a3 W w0 w1 w2 w3).mono fun e W' ⟨he, bel⟩ => ?_
  subst he
  exact ⟨_, rfl, _, _, _, [], _, [], hW', trodAll_mk1 (shut_bool Try.underlying4 _), (trodAll_cons_mk (shut_int Try.underlying3 w0) (trodAll_cons_mk (Below.trod laidOut (by kernel_rfl) (of_decide_eq_true (by kernel_rfl)) k1 bel lt1) (trodAll_cons_mk (shut_int Try.underlying3 w2) (trodAll_cons_mk (shut_int Try.underlying3 w3) trodAll_mk0)))), rfl, bel.frame _, fun h => by cases h⟩

theorem over : Rows.fnExactProofMakeRow.holds Try.pinned (OpenSpec.ofChange Rows.fnExactProofMakeSpec) :=
  OpenClaim.holds_of_wide 4 Try.f4 rfl rfl rfl rfl rfl rfl rfl ⟨rfl, rfl, rfl, rfl, rfl⟩ rfl rfl rfl rfl rfl (by kernel_rfl) Try.func4 (by kernel_rfl)
    (of_decide_eq_true (by kernel_rfl)) (by unfold Func.isWrapper; first | (rw [if_pos (by decide +kernel)]; kernel_rfl) | (rw [if_neg (by decide +kernel)]; exact ⟨rfl, rfl⟩))
    (fun os started H enc _ => lifted os started H enc)

/-- ████ THE STATEMENT ████ -/
theorem proved : Rows.FnExactProofMakeSaid := over
#print axioms proved
end Go.Proofs.Ytamikccedcffeaa.fnExactProofMake
