/-
  Shares of a sum are sums of shares: the law FnShareSum returns true for every two codes.
  Conditions: none but the statement's own. Proved: Rows.FnShareSumSaid.
-/
import Derived.Test.YtadngncbbbbapaaRows
import Derived.WalkKit
import Derived.ProofKit
import Derived.OpenShut
import Derived.ShutString
import Derived.ChangeOld
import Derived.Below
import Derived.Test.YtadngncbbbbapaaFp
import Derived.Test.YtadngncbbbbapaaBase
import Derived.Test.YtadngncbbbbapaaField
import Derived.Test.YtadngncbbbbapaaSl
import Derived.Test.YtadngncbbbbapaaLw
import Derived.Test.YtadngncbbbbapaaKlaw
import Derived.Test.YtadngncbbbbapaaShk
import Derived.Test.YtadngncbbbbapaaShs
import Derived.Test.YtadngncbbbbapaaShm
import Derived.Test.YtadngncbbbbapaaShp
import Derived.Test.YtadngncbbbbapaaShw
import Derived.Test.YtadngncbbbbapaaDraw
import Derived.Test.YtadngncbbbbapaaDlist
import Derived.Test.YtadngncbbbbapaaDtwo
import Derived.Test.YtadngncbbbbapaaKay
import Derived.Conc.Holds
import Derived.Leaving
import Derived.Conc.LeavingOf
import Derived.ChangeFn
namespace Go.Proofs.Ytadngncbbbbapaa.fnShareSum
open Go.ChangeShapes Go.WideShapes Go.ChangeAt Go.RowKit
open Go.ChangeMaps (open_string shut_string)
set_option linter.unusedVariables false
set_option linter.unusedSimpArgs false

theorem own : ownKnob Try.prog.godebug = none := by kernel_rfl
theorem laidOut : laidOutB Try.prog = true := by kernel_rfl

noncomputable def bL : Code := Try.f5.body.getD .skip
theorem hL : Try.f5.body = some bL := by kernel_rfl
theorem rL : Lift.ResOk Try.prog 5 := ⟨_, Try.func5, fun tmps => ⟨_, by simp [results, Try.f5]; rfl⟩⟩
noncomputable def d0 : Code := bL
noncomputable def y0_2 : Code := Lift.takeS 1 d0
noncomputable def d2 : Code := Lift.dropS 1 bL
noncomputable def y0_4 : Code := Lift.takeS 3 d0
noncomputable def d4 : Code := Lift.dropS 3 bL
noncomputable def d5 : Code := Lift.dropS 4 bL
noncomputable def p4 : List Oper := (Lift.opsS d4).take 2
noncomputable def o4 : Oper := (Lift.opsS d4).getD 2 default
noncomputable def q4 : List Oper := (Lift.opsS d4).drop 3
noncomputable def y5_1 : Code := Lift.takeS 0 d5
noncomputable def d6 : Code := Lift.dropS 5 bL
noncomputable def y5_3 : Code := Lift.takeS 2 d5
noncomputable def d8 : Code := Lift.dropS 7 bL
noncomputable def d9 : Code := Lift.dropS 8 bL
noncomputable def p8 : List Oper := (Lift.opsS d8).take 2
noncomputable def o8 : Oper := (Lift.opsS d8).getD 2 default
noncomputable def q8 : List Oper := (Lift.opsS d8).drop 3
noncomputable def d10 : Code := Lift.dropS 9 bL
noncomputable def p9 : List Oper := (Lift.opsS d9).take 2
noncomputable def o9 : Oper := (Lift.opsS d9).getD 2 default
noncomputable def q9 : List Oper := (Lift.opsS d9).drop 3
noncomputable def d11 : Code := Lift.dropS 10 bL
noncomputable def p10 : List Oper := (Lift.opsS d10).take 2
noncomputable def o10 : Oper := (Lift.opsS d10).getD 2 default
noncomputable def q10 : List Oper := (Lift.opsS d10).drop 3
noncomputable def d12 : Code := Lift.dropS 11 bL
noncomputable def p11 : List Oper := (Lift.opsS d11).take 2
noncomputable def o11 : Oper := (Lift.opsS d11).getD 2 default
noncomputable def q11 : List Oper := (Lift.opsS d11).drop 3
noncomputable def d13 : Code := Lift.dropS 12 bL
noncomputable def p12 : List Oper := (Lift.opsS d12).take 2
noncomputable def o12 : Oper := (Lift.opsS d12).getD 2 default
noncomputable def q12 : List Oper := (Lift.opsS d12).drop 3
set_option maxHeartbeats 1000000 in
set_option maxRecDepth 100000 in
theorem walk (a0 : Option Addr) (len0 cap0 : Nat) (z0 : List Int) (a1 : Option Addr) (len1 cap1 : Nat) (z1 : List Int) (w : World) (w0 : IsRow .u8 w a0 len0 cap0 z0) (w1 : IsRow .u8 w a1 len1 cap1 z1) :
    Lift.K Try.prog w.heap.size (Go.Conc.G (Frame.enter Try.prog 5 #[.slice a0 len0 cap0, .slice a1 len1 cap1] .normal) []) w (Lift.AtRet Try.prog w.heap.size fun x w' => x = .bool true ∧ Lift.Blw w.heap.size w w') := by
  obtain ⟨c1, c2⟩ := w0.sizes
  have Hb := Lib.hid (Bys.of_row w0)
  clear w0 w1
  refine Lift.KW.law Try.func5 hL (by kernel_rfl) ?_
  simp only [Try.ntmps5, List.size_toArray, List.length_cons, List.length_nil, Nat.reduceAdd, Nat.reduceSub, Array.replicate_succ, Array.replicate_zero, List.push_toArray, List.append_toArray, List.nil_append, List.cons_append]
  rw [show bL = d0 from rfl]
  have B := Lib.hid (Lift.Blw.refl w.heap.size w)
  by_cases hl : 1048576 < len0
  · skip
    refine Lift.KW.stmts 1 (d := d0) (y := y0_2) (z := d2) rL (by kernel_rfl) (by kernel_rfl) (by kernel_rfl) fun τ => ?_
    simp only [y0_2, Lift.takeS, d0, Lift.dropS, bL, Try.f5, Option.getD_some]
    obtain ⟨W1, hV⟩ : ∃ V, Lift.re w τ 0 = V := ⟨_, rfl⟩
    rw [hV]
    replace B := Lib.hid (B.out.at hV)
    have Z_W1 : w.heap.size ≤ W1.heap.size := by rw [← hV]; exact Nat.le_refl _
    clear hV
    go_wp2
    exact .inr ⟨rfl, rfl, .inr rfl, rfl, _, _, Try.func5, by kernel_rfl, rfl, B.out⟩
  by_cases hl' : 1048576 < len1
  · skip
    refine Lift.KW.stmts 1 (d := d0) (y := y0_2) (z := d2) rL (by kernel_rfl) (by kernel_rfl) (by kernel_rfl) fun τ => ?_
    simp only [y0_2, Lift.takeS, d0, Lift.dropS, bL, Try.f5, Option.getD_some]
    obtain ⟨W2, hV⟩ : ∃ V, Lift.re w τ 0 = V := ⟨_, rfl⟩
    rw [hV]
    replace B := Lib.hid (B.out.at hV)
    have Z_W2 : w.heap.size ≤ W2.heap.size := by rw [← hV]; exact Nat.le_refl _
    clear hV
    go_wp2
    exact .inr ⟨rfl, rfl, .inr rfl, rfl, _, _, Try.func5, by kernel_rfl, rfl, B.out⟩
  refine Lift.KW.stmts 3 (d := d0) (y := y0_4) (z := d4) rL (by kernel_rfl) (by kernel_rfl) (by kernel_rfl) fun τ => ?_
  simp only [y0_4, Lift.takeS, d0, Lift.dropS, bL, Try.f5, Option.getD_some]
  obtain ⟨W3, hV⟩ : ∃ V, Lift.re w τ 0 = V := ⟨_, rfl⟩
  rw [hV]
  replace B := Lib.hid (B.out.at hV)
  have Z_W3 : w.heap.size ≤ W3.heap.size := by rw [← hV]; exact Nat.le_refl _
  replace Hb := Lib.hid (Lift.bys_at Hb.out hV)
  clear hV
  go_wp2_with fail
  refine (spec_DrawShareSum a0 len0 cap0 _ Hb.out c1 c2).mono ?_
  rintro e W4 ⟨a_a, n_a, c_a, a_b, n_b, c_b, us, bs, h_a, h_b, rfl, o_a, o_b, b_d⟩
  have Z_W4 : W3.heap.size ≤ W4.heap.size := b_d.size
  have O_a := Lib.hid o_a
  have L_a := Lib.hid o_a.len
  have O_b := Lib.hid o_b
  have L_b := Lib.hid o_b.len
  replace B := Lib.hid (B.out.next b_d)
  clear b_d o_a o_b
  clear c1 c2 Hb
  have e1 := eqB_self (Lift.add us bs)
  have pl := Lib.hid (Lift.comb_len (g := fun x y => (x + y) % 31) (xs := us) (ys := bs))
  go_wp2_with fail
  refine (spec_ShareSum _ _ _ _ _ _ _ _ _ O_a.out.sl O_b.out.sl (by omega) (by omega)).mono ?_
  rintro e W5 ⟨a_p, n_p, c_p, rfl, o_p, b_p⟩
  have O_p := Lib.hid o_p
  have L_p := Lib.hid o_p.len
  have Z_W5 : W4.heap.size ≤ W5.heap.size := b_p.size
  replace O_a := Lib.hid (O_a.out.below b_p)
  replace O_b := Lib.hid (O_b.out.below b_p)
  replace B := Lib.hid (B.out.next b_p)
  clear o_p b_p
  have h_p : n_p ≤ 20 := by rw [← L_p.out]; exact pl.out
  replace O_p : Hid (Own _ _ _ a_p n_p c_p (Lift.add us bs)) := O_p
  go_wp2
  refine .inl ⟨rfl, rfl, ?_⟩
  try dsimp only
  refine Lift.KW.callS (id := 5) (d := d4) (z := d5) (m1 := p4) (m2 := q4) (o := o4) (f := 25) (args := fun a => #[a.eval (.tmp 45), a.eval (.tmp 46)]) (by kernel_rfl) (by kernel_rfl) (by kernel_rfl) (fun ys => by kernel_rfl) (fun tm w => by kernel_rfl) fun τ => ?_
  simp only [p4, q4, o4, Lift.opsS, d4, Lift.dropS, bL, Try.f5, Option.getD_some, List.take_succ_cons, List.take_zero, List.drop_succ_cons, List.drop_zero, List.getD_cons_succ, List.getD_cons_zero, List.cons_append, List.nil_append]
  obtain ⟨W6, hV⟩ : ∃ V, Lift.re W5 τ 0 = V := ⟨_, rfl⟩
  rw [hV]
  replace B := Lib.hid (B.out.at hV)
  have Z_W6 : W5.heap.size ≤ W6.heap.size := by rw [← hV]; exact Nat.le_refl _
  replace O_a := Lib.hid (Lift.own_at O_a.out hV)
  replace O_b := Lib.hid (Lift.own_at O_b.out hV)
  replace O_p := Lib.hid (Lift.own_at O_p.out hV)
  clear hV
  go_wp2
  try refine ⟨rfl, rfl, ?_⟩
  refine (Lift.ShareSum_k B.out.size O_a.out.sl O_b.out.sl O_a.out.le O_b.out.le).mono ?_
  rintro r W7 ⟨a_s, n_s, c_s, rfl, o_s, b_k⟩ τ
  have Z_W7 : W6.heap.size ≤ W7.heap.size := b_k.size
  have O_s := Lib.hid o_s
  have L_s := Lib.hid o_s.len
  replace O_a := Lib.hid (Lift.own_blw O_a.out b_k)
  replace O_b := Lib.hid (Lift.own_blw O_b.out b_k)
  replace O_p := Lib.hid (Lift.own_blw O_p.out b_k)
  replace B := Lib.hid (B.out.trans (b_k.mono B.out.size))
  clear b_k o_s
  obtain ⟨W8, hV⟩ : ∃ V, Lift.re W7 τ 0 = V := ⟨_, rfl⟩
  rw [hV]
  replace B := Lib.hid (B.out.at hV)
  have Z_W8 : W7.heap.size ≤ W8.heap.size := by rw [← hV]; exact Nat.le_refl _
  replace O_a := Lib.hid (Lift.own_at O_a.out hV)
  replace O_b := Lib.hid (Lift.own_at O_b.out hV)
  replace O_p := Lib.hid (Lift.own_at O_p.out hV)
  replace O_s := Lib.hid (Lift.own_at O_s.out hV)
  clear hV
  go_wp2
  try refine ⟨rfl, rfl, ?_⟩
  try dsimp only
  have h_s : n_s ≤ 20 := by rw [← L_s.out]; exact pl.out
  replace O_s : Hid (Own _ _ _ a_s n_s c_s (Lift.add us bs)) := O_s
  cases hf : Fp.fit us bs
  · skip
    refine Lift.KW.stmts 0 (d := d5) (y := y5_1) (z := d6) rL (by kernel_rfl) (by kernel_rfl) (by kernel_rfl) fun τ => ?_
    simp only [y5_1, Lift.takeS, d5, Lift.dropS, bL, Try.f5, Option.getD_some]
    obtain ⟨W9, hV⟩ : ∃ V, Lift.re W8 τ 0 = V := ⟨_, rfl⟩
    rw [hV]
    replace B := Lib.hid (B.out.at hV)
    have Z_W9 : W8.heap.size ≤ W9.heap.size := by rw [← hV]; exact Nat.le_refl _
    replace O_a := Lib.hid (Lift.own_at O_a.out hV)
    replace O_b := Lib.hid (Lift.own_at O_b.out hV)
    replace O_p := Lib.hid (Lift.own_at O_p.out hV)
    replace O_s := Lib.hid (Lift.own_at O_s.out hV)
    clear hV
    go_wp2_with fail
    refine (laws_loInts _ _ _ _ _ _ _ _ _ O_s.out.sl O_p.out.sl (by omega) (by omega)).mono ?_
    rintro e W10 hd
    obtain ⟨rfl, b_d⟩ := hd.below
    have Z_W10 : W9.heap.size ≤ W10.heap.size := b_d.size
    clear hd
    replace O_a := Lib.hid (O_a.out.below b_d)
    replace O_b := Lib.hid (O_b.out.below b_d)
    replace O_p := Lib.hid (O_p.out.below b_d)
    replace O_s := Lib.hid (O_s.out.below b_d)
    replace B := Lib.hid (B.out.next b_d)
    clear b_d
    go_wp2_with fail
    refine (laws_loInts _ _ _ _ _ _ _ _ _ O_s.out.sl O_p.out.sl (by omega) (by omega)).mono ?_
    rintro e W11 hd
    obtain ⟨rfl, b_d⟩ := hd.below
    have Z_W11 : W10.heap.size ≤ W11.heap.size := b_d.size
    clear hd
    replace O_a := Lib.hid (O_a.out.below b_d)
    replace O_b := Lib.hid (O_b.out.below b_d)
    replace O_p := Lib.hid (O_p.out.below b_d)
    replace O_s := Lib.hid (O_s.out.below b_d)
    replace B := Lib.hid (B.out.next b_d)
    clear b_d
    go_wp2
    exact .inr ⟨rfl, rfl, .inr rfl, rfl, _, _, Try.func5, by kernel_rfl, rfl, B.out⟩
  · skip
    obtain ⟨s1, s2, s3⟩ := Lift.fit_parts hf
    have hd : Fp.fit us (some_ len1 n_a) = true := Lift.fit_of s1 (Lift.some_sok _ _ (by omega)) (by rw [some_len]; exact L_a.out)
    have he : Fp.fit bs (some_ (len1 + 9) n_a) = true := Lift.fit_of s2 (Lift.some_sok _ _ (by omega)) (by rw [some_len, ← s3]; exact L_a.out)
    obtain ⟨f1, f2, f3, f4⟩ := Lift.four hf hd he
    refine Lift.KW.stmts 2 (d := d5) (y := y5_3) (z := d8) rL (by kernel_rfl) (by kernel_rfl) (by kernel_rfl) fun τ => ?_
    simp only [y5_3, Lift.takeS, d5, Lift.dropS, bL, Try.f5, Option.getD_some]
    obtain ⟨W12, hV⟩ : ∃ V, Lift.re W8 τ 0 = V := ⟨_, rfl⟩
    rw [hV]
    replace B := Lib.hid (B.out.at hV)
    have Z_W12 : W8.heap.size ≤ W12.heap.size := by rw [← hV]; exact Nat.le_refl _
    replace O_a := Lib.hid (Lift.own_at O_a.out hV)
    replace O_b := Lib.hid (Lift.own_at O_b.out hV)
    replace O_p := Lib.hid (Lift.own_at O_p.out hV)
    replace O_s := Lib.hid (Lift.own_at O_s.out hV)
    clear hV
    go_wp2_with fail
    refine (laws_loInts _ _ _ _ _ _ _ _ _ O_s.out.sl O_p.out.sl (by omega) (by omega)).mono ?_
    rintro e W13 hd
    obtain ⟨rfl, b_d⟩ := hd.below
    have Z_W13 : W12.heap.size ≤ W13.heap.size := b_d.size
    clear hd
    replace O_a := Lib.hid (O_a.out.below b_d)
    replace O_b := Lib.hid (O_b.out.below b_d)
    replace O_p := Lib.hid (O_p.out.below b_d)
    replace O_s := Lib.hid (O_s.out.below b_d)
    replace B := Lib.hid (B.out.next b_d)
    clear b_d
    go_wp2_with fail
    refine (laws_loSome len1 n_a _ (by omega) (by omega)).mono ?_
    rintro e W14 ⟨a_d, n_d, c_d, rfl, o_d, b_d⟩
    have O_d := Lib.hid o_d
    have L_d := Lib.hid o_d.len
    have Z_W14 : W13.heap.size ≤ W14.heap.size := b_d.size
    replace O_a := Lib.hid (O_a.out.below b_d)
    replace O_b := Lib.hid (O_b.out.below b_d)
    replace O_p := Lib.hid (O_p.out.below b_d)
    replace O_s := Lib.hid (O_s.out.below b_d)
    replace B := Lib.hid (B.out.next b_d)
    clear o_d b_d
    go_wp2_with fail
    refine (laws_loSome (len1 + 9) n_a _ (by omega) (by omega)).mono ?_
    rintro e W15 ⟨a_e, n_e, c_e, rfl, o_e, b_e⟩
    have O_e := Lib.hid o_e
    have L_e := Lib.hid o_e.len
    have Z_W15 : W14.heap.size ≤ W15.heap.size := b_e.size
    replace O_a := Lib.hid (O_a.out.below b_e)
    replace O_b := Lib.hid (O_b.out.below b_e)
    replace O_p := Lib.hid (O_p.out.below b_e)
    replace O_s := Lib.hid (O_s.out.below b_e)
    replace O_d := Lib.hid (O_d.out.below b_e)
    replace B := Lib.hid (B.out.next b_e)
    clear o_e b_e
    go_wp2
    refine .inl ⟨rfl, rfl, ?_⟩
    try dsimp only
    refine Lift.KW.callS (id := 10) (d := d8) (z := d9) (m1 := p8) (m2 := q8) (o := o8) (f := 15) (args := fun a => #[a.eval (.tmp 83), a.eval (.tmp 84)]) (by kernel_rfl) (by kernel_rfl) (by kernel_rfl) (fun ys => by kernel_rfl) (fun tm w => by kernel_rfl) fun τ => ?_
    simp only [p8, q8, o8, Lift.opsS, d8, Lift.dropS, bL, Try.f5, Option.getD_some, List.take_succ_cons, List.take_zero, List.drop_succ_cons, List.drop_zero, List.getD_cons_succ, List.getD_cons_zero, List.cons_append, List.nil_append]
    obtain ⟨W16, hV⟩ : ∃ V, Lift.re W15 τ 0 = V := ⟨_, rfl⟩
    rw [hV]
    replace B := Lib.hid (B.out.at hV)
    have Z_W16 : W15.heap.size ≤ W16.heap.size := by rw [← hV]; exact Nat.le_refl _
    replace O_a := Lib.hid (Lift.own_at O_a.out hV)
    replace O_b := Lib.hid (Lift.own_at O_b.out hV)
    replace O_p := Lib.hid (Lift.own_at O_p.out hV)
    replace O_s := Lib.hid (Lift.own_at O_s.out hV)
    replace O_d := Lib.hid (Lift.own_at O_d.out hV)
    replace O_e := Lib.hid (Lift.own_at O_e.out hV)
    clear hV
    go_wp2
    try refine ⟨rfl, rfl, ?_⟩
    refine (Lift.make_k hd rfl B.out.size O_a.out.sl O_d.out.sl O_a.out.le O_d.out.le).mono ?_
    rintro r W17 ⟨m_f, a_f, n_f, c_f, a_g, n_g, c_g, rfl, M_f, M_g, o_f, o_g, b_k⟩ τ
    have Z_W17 : W16.heap.size ≤ W17.heap.size := b_k.size
    have O_f := Lib.hid o_f
    have L_f := Lib.hid o_f.len
    have O_g := Lib.hid o_g
    have L_g := Lib.hid o_g.len
    replace O_a := Lib.hid (Lift.own_blw O_a.out b_k)
    replace O_b := Lib.hid (Lift.own_blw O_b.out b_k)
    replace O_p := Lib.hid (Lift.own_blw O_p.out b_k)
    replace O_s := Lib.hid (Lift.own_blw O_s.out b_k)
    replace O_d := Lib.hid (Lift.own_blw O_d.out b_k)
    replace O_e := Lib.hid (Lift.own_blw O_e.out b_k)
    replace B := Lib.hid (B.out.trans (b_k.mono B.out.size))
    clear b_k o_f o_g
    obtain ⟨W18, hV⟩ : ∃ V, Lift.re W17 τ 0 = V := ⟨_, rfl⟩
    rw [hV]
    replace B := Lib.hid (B.out.at hV)
    have Z_W18 : W17.heap.size ≤ W18.heap.size := by rw [← hV]; exact Nat.le_refl _
    replace O_a := Lib.hid (Lift.own_at O_a.out hV)
    replace O_b := Lib.hid (Lift.own_at O_b.out hV)
    replace O_p := Lib.hid (Lift.own_at O_p.out hV)
    replace O_s := Lib.hid (Lift.own_at O_s.out hV)
    replace O_d := Lib.hid (Lift.own_at O_d.out hV)
    replace O_e := Lib.hid (Lift.own_at O_e.out hV)
    replace O_f := Lib.hid (Lift.own_at O_f.out hV)
    replace O_g := Lib.hid (Lift.own_at O_g.out hV)
    clear hV
    go_wp2
    try refine ⟨rfl, rfl, ?_⟩
    try dsimp only
    refine Lift.KW.callS (id := 11) (d := d9) (z := d10) (m1 := p9) (m2 := q9) (o := o9) (f := 15) (args := fun a => #[a.eval (.tmp 90), a.eval (.tmp 91)]) (by kernel_rfl) (by kernel_rfl) (by kernel_rfl) (fun ys => by kernel_rfl) (fun tm w => by kernel_rfl) fun τ => ?_
    simp only [p9, q9, o9, Lift.opsS, d9, Lift.dropS, bL, Try.f5, Option.getD_some, List.take_succ_cons, List.take_zero, List.drop_succ_cons, List.drop_zero, List.getD_cons_succ, List.getD_cons_zero, List.cons_append, List.nil_append]
    obtain ⟨W19, hV⟩ : ∃ V, Lift.re W18 τ 0 = V := ⟨_, rfl⟩
    rw [hV]
    replace B := Lib.hid (B.out.at hV)
    have Z_W19 : W18.heap.size ≤ W19.heap.size := by rw [← hV]; exact Nat.le_refl _
    replace O_a := Lib.hid (Lift.own_at O_a.out hV)
    replace O_b := Lib.hid (Lift.own_at O_b.out hV)
    replace O_p := Lib.hid (Lift.own_at O_p.out hV)
    replace O_s := Lib.hid (Lift.own_at O_s.out hV)
    replace O_d := Lib.hid (Lift.own_at O_d.out hV)
    replace O_e := Lib.hid (Lift.own_at O_e.out hV)
    replace O_f := Lib.hid (Lift.own_at O_f.out hV)
    replace O_g := Lib.hid (Lift.own_at O_g.out hV)
    clear hV
    go_wp2
    try refine ⟨rfl, rfl, ?_⟩
    refine (Lift.make_k he rfl B.out.size O_b.out.sl O_e.out.sl O_b.out.le O_e.out.le).mono ?_
    rintro r W20 ⟨m_h, a_h, n_h, c_h, a_k, n_k, c_k, rfl, M_h, M_k, o_h, o_k, b_k⟩ τ
    have Z_W20 : W19.heap.size ≤ W20.heap.size := b_k.size
    have O_h := Lib.hid o_h
    have L_h := Lib.hid o_h.len
    have O_k := Lib.hid o_k
    have L_k := Lib.hid o_k.len
    replace O_a := Lib.hid (Lift.own_blw O_a.out b_k)
    replace O_b := Lib.hid (Lift.own_blw O_b.out b_k)
    replace O_p := Lib.hid (Lift.own_blw O_p.out b_k)
    replace O_s := Lib.hid (Lift.own_blw O_s.out b_k)
    replace O_d := Lib.hid (Lift.own_blw O_d.out b_k)
    replace O_e := Lib.hid (Lift.own_blw O_e.out b_k)
    replace O_f := Lib.hid (Lift.own_blw O_f.out b_k)
    replace O_g := Lib.hid (Lift.own_blw O_g.out b_k)
    replace B := Lib.hid (B.out.trans (b_k.mono B.out.size))
    clear b_k o_h o_k
    obtain ⟨W21, hV⟩ : ∃ V, Lift.re W20 τ 0 = V := ⟨_, rfl⟩
    rw [hV]
    replace B := Lib.hid (B.out.at hV)
    have Z_W21 : W20.heap.size ≤ W21.heap.size := by rw [← hV]; exact Nat.le_refl _
    replace O_a := Lib.hid (Lift.own_at O_a.out hV)
    replace O_b := Lib.hid (Lift.own_at O_b.out hV)
    replace O_p := Lib.hid (Lift.own_at O_p.out hV)
    replace O_s := Lib.hid (Lift.own_at O_s.out hV)
    replace O_d := Lib.hid (Lift.own_at O_d.out hV)
    replace O_e := Lib.hid (Lift.own_at O_e.out hV)
    replace O_f := Lib.hid (Lift.own_at O_f.out hV)
    replace O_g := Lib.hid (Lift.own_at O_g.out hV)
    replace O_h := Lib.hid (Lift.own_at O_h.out hV)
    replace O_k := Lib.hid (Lift.own_at O_k.out hV)
    clear hV
    go_wp2
    try refine ⟨rfl, rfl, ?_⟩
    try dsimp only
    refine Lift.KW.callS (id := 12) (d := d10) (z := d11) (m1 := p10) (m2 := q10) (o := o10) (f := 25) (args := fun a => #[a.eval (.tmp 97), a.eval (.tmp 98)]) (by kernel_rfl) (by kernel_rfl) (by kernel_rfl) (fun ys => by kernel_rfl) (fun tm w => by kernel_rfl) fun τ => ?_
    simp only [p10, q10, o10, Lift.opsS, d10, Lift.dropS, bL, Try.f5, Option.getD_some, List.take_succ_cons, List.take_zero, List.drop_succ_cons, List.drop_zero, List.getD_cons_succ, List.getD_cons_zero, List.cons_append, List.nil_append]
    obtain ⟨W22, hV⟩ : ∃ V, Lift.re W21 τ 0 = V := ⟨_, rfl⟩
    rw [hV]
    replace B := Lib.hid (B.out.at hV)
    have Z_W22 : W21.heap.size ≤ W22.heap.size := by rw [← hV]; exact Nat.le_refl _
    replace O_a := Lib.hid (Lift.own_at O_a.out hV)
    replace O_b := Lib.hid (Lift.own_at O_b.out hV)
    replace O_p := Lib.hid (Lift.own_at O_p.out hV)
    replace O_s := Lib.hid (Lift.own_at O_s.out hV)
    replace O_d := Lib.hid (Lift.own_at O_d.out hV)
    replace O_e := Lib.hid (Lift.own_at O_e.out hV)
    replace O_f := Lib.hid (Lift.own_at O_f.out hV)
    replace O_g := Lib.hid (Lift.own_at O_g.out hV)
    replace O_h := Lib.hid (Lift.own_at O_h.out hV)
    replace O_k := Lib.hid (Lift.own_at O_k.out hV)
    clear hV
    go_wp2
    try refine ⟨rfl, rfl, ?_⟩
    refine (Lift.sum_k f1 rfl B.out.size O_f.out.sl O_h.out.sl O_f.out.le O_h.out.le).mono ?_
    rintro r W23 ⟨a_x, n_x, c_x, rfl, o_x, b_k⟩ τ
    have Z_W23 : W22.heap.size ≤ W23.heap.size := b_k.size
    have O_x := Lib.hid o_x
    have L_x := Lib.hid o_x.len
    replace O_a := Lib.hid (Lift.own_blw O_a.out b_k)
    replace O_b := Lib.hid (Lift.own_blw O_b.out b_k)
    replace O_p := Lib.hid (Lift.own_blw O_p.out b_k)
    replace O_s := Lib.hid (Lift.own_blw O_s.out b_k)
    replace O_d := Lib.hid (Lift.own_blw O_d.out b_k)
    replace O_e := Lib.hid (Lift.own_blw O_e.out b_k)
    replace O_f := Lib.hid (Lift.own_blw O_f.out b_k)
    replace O_g := Lib.hid (Lift.own_blw O_g.out b_k)
    replace O_h := Lib.hid (Lift.own_blw O_h.out b_k)
    replace O_k := Lib.hid (Lift.own_blw O_k.out b_k)
    replace B := Lib.hid (B.out.trans (b_k.mono B.out.size))
    clear b_k o_x
    obtain ⟨W24, hV⟩ : ∃ V, Lift.re W23 τ 0 = V := ⟨_, rfl⟩
    rw [hV]
    replace B := Lib.hid (B.out.at hV)
    have Z_W24 : W23.heap.size ≤ W24.heap.size := by rw [← hV]; exact Nat.le_refl _
    replace O_a := Lib.hid (Lift.own_at O_a.out hV)
    replace O_b := Lib.hid (Lift.own_at O_b.out hV)
    replace O_p := Lib.hid (Lift.own_at O_p.out hV)
    replace O_s := Lib.hid (Lift.own_at O_s.out hV)
    replace O_d := Lib.hid (Lift.own_at O_d.out hV)
    replace O_e := Lib.hid (Lift.own_at O_e.out hV)
    replace O_f := Lib.hid (Lift.own_at O_f.out hV)
    replace O_g := Lib.hid (Lift.own_at O_g.out hV)
    replace O_h := Lib.hid (Lift.own_at O_h.out hV)
    replace O_k := Lib.hid (Lift.own_at O_k.out hV)
    replace O_x := Lib.hid (Lift.own_at O_x.out hV)
    clear hV
    go_wp2
    try refine ⟨rfl, rfl, ?_⟩
    try dsimp only
    refine Lift.KW.callS (id := 13) (d := d11) (z := d12) (m1 := p11) (m2 := q11) (o := o11) (f := 25) (args := fun a => #[a.eval (.tmp 103), a.eval (.tmp 104)]) (by kernel_rfl) (by kernel_rfl) (by kernel_rfl) (fun ys => by kernel_rfl) (fun tm w => by kernel_rfl) fun τ => ?_
    simp only [p11, q11, o11, Lift.opsS, d11, Lift.dropS, bL, Try.f5, Option.getD_some, List.take_succ_cons, List.take_zero, List.drop_succ_cons, List.drop_zero, List.getD_cons_succ, List.getD_cons_zero, List.cons_append, List.nil_append]
    obtain ⟨W25, hV⟩ : ∃ V, Lift.re W24 τ 0 = V := ⟨_, rfl⟩
    rw [hV]
    replace B := Lib.hid (B.out.at hV)
    have Z_W25 : W24.heap.size ≤ W25.heap.size := by rw [← hV]; exact Nat.le_refl _
    replace O_a := Lib.hid (Lift.own_at O_a.out hV)
    replace O_b := Lib.hid (Lift.own_at O_b.out hV)
    replace O_p := Lib.hid (Lift.own_at O_p.out hV)
    replace O_s := Lib.hid (Lift.own_at O_s.out hV)
    replace O_d := Lib.hid (Lift.own_at O_d.out hV)
    replace O_e := Lib.hid (Lift.own_at O_e.out hV)
    replace O_f := Lib.hid (Lift.own_at O_f.out hV)
    replace O_g := Lib.hid (Lift.own_at O_g.out hV)
    replace O_h := Lib.hid (Lift.own_at O_h.out hV)
    replace O_k := Lib.hid (Lift.own_at O_k.out hV)
    replace O_x := Lib.hid (Lift.own_at O_x.out hV)
    clear hV
    go_wp2
    try refine ⟨rfl, rfl, ?_⟩
    refine (Lift.sum_k f2 rfl B.out.size O_g.out.sl O_k.out.sl O_g.out.le O_k.out.le).mono ?_
    rintro r W26 ⟨a_y, n_y, c_y, rfl, o_y, b_k⟩ τ
    have Z_W26 : W25.heap.size ≤ W26.heap.size := b_k.size
    have O_y := Lib.hid o_y
    have L_y := Lib.hid o_y.len
    replace O_a := Lib.hid (Lift.own_blw O_a.out b_k)
    replace O_b := Lib.hid (Lift.own_blw O_b.out b_k)
    replace O_p := Lib.hid (Lift.own_blw O_p.out b_k)
    replace O_s := Lib.hid (Lift.own_blw O_s.out b_k)
    replace O_d := Lib.hid (Lift.own_blw O_d.out b_k)
    replace O_e := Lib.hid (Lift.own_blw O_e.out b_k)
    replace O_f := Lib.hid (Lift.own_blw O_f.out b_k)
    replace O_g := Lib.hid (Lift.own_blw O_g.out b_k)
    replace O_h := Lib.hid (Lift.own_blw O_h.out b_k)
    replace O_k := Lib.hid (Lift.own_blw O_k.out b_k)
    replace O_x := Lib.hid (Lift.own_blw O_x.out b_k)
    replace B := Lib.hid (B.out.trans (b_k.mono B.out.size))
    clear b_k o_y
    obtain ⟨W27, hV⟩ : ∃ V, Lift.re W26 τ 0 = V := ⟨_, rfl⟩
    rw [hV]
    replace B := Lib.hid (B.out.at hV)
    have Z_W27 : W26.heap.size ≤ W27.heap.size := by rw [← hV]; exact Nat.le_refl _
    replace O_a := Lib.hid (Lift.own_at O_a.out hV)
    replace O_b := Lib.hid (Lift.own_at O_b.out hV)
    replace O_p := Lib.hid (Lift.own_at O_p.out hV)
    replace O_s := Lib.hid (Lift.own_at O_s.out hV)
    replace O_d := Lib.hid (Lift.own_at O_d.out hV)
    replace O_e := Lib.hid (Lift.own_at O_e.out hV)
    replace O_f := Lib.hid (Lift.own_at O_f.out hV)
    replace O_g := Lib.hid (Lift.own_at O_g.out hV)
    replace O_h := Lib.hid (Lift.own_at O_h.out hV)
    replace O_k := Lib.hid (Lift.own_at O_k.out hV)
    replace O_x := Lib.hid (Lift.own_at O_x.out hV)
    replace O_y := Lib.hid (Lift.own_at O_y.out hV)
    clear hV
    go_wp2
    try refine ⟨rfl, rfl, ?_⟩
    try dsimp only
    refine Lift.KW.callS (id := 14) (d := d12) (z := d13) (m1 := p12) (m2 := q12) (o := o12) (f := 17) (args := fun a => #[a.eval (.tmp 109), a.eval (.tmp 110)]) (by kernel_rfl) (by kernel_rfl) (by kernel_rfl) (fun ys => by kernel_rfl) (fun tm w => by kernel_rfl) fun τ => ?_
    simp only [p12, q12, o12, Lift.opsS, d12, Lift.dropS, bL, Try.f5, Option.getD_some, List.take_succ_cons, List.take_zero, List.drop_succ_cons, List.drop_zero, List.getD_cons_succ, List.getD_cons_zero, List.cons_append, List.nil_append]
    obtain ⟨W28, hV⟩ : ∃ V, Lift.re W27 τ 0 = V := ⟨_, rfl⟩
    rw [hV]
    replace B := Lib.hid (B.out.at hV)
    have Z_W28 : W27.heap.size ≤ W28.heap.size := by rw [← hV]; exact Nat.le_refl _
    replace O_a := Lib.hid (Lift.own_at O_a.out hV)
    replace O_b := Lib.hid (Lift.own_at O_b.out hV)
    replace O_p := Lib.hid (Lift.own_at O_p.out hV)
    replace O_s := Lib.hid (Lift.own_at O_s.out hV)
    replace O_d := Lib.hid (Lift.own_at O_d.out hV)
    replace O_e := Lib.hid (Lift.own_at O_e.out hV)
    replace O_f := Lib.hid (Lift.own_at O_f.out hV)
    replace O_g := Lib.hid (Lift.own_at O_g.out hV)
    replace O_h := Lib.hid (Lift.own_at O_h.out hV)
    replace O_k := Lib.hid (Lift.own_at O_k.out hV)
    replace O_x := Lib.hid (Lift.own_at O_x.out hV)
    replace O_y := Lib.hid (Lift.own_at O_y.out hV)
    clear hV
    go_wp2
    try refine ⟨rfl, rfl, ?_⟩
    refine (Lift.back_k f3 f4 B.out.size O_x.out.sl O_y.out.sl O_x.out.le O_y.out.le).mono ?_
    rintro r W29 ⟨a_z, n_z, c_z, rfl, o_z, b_k⟩ τ
    have Z_W29 : W28.heap.size ≤ W29.heap.size := b_k.size
    have O_z := Lib.hid o_z
    have L_z := Lib.hid o_z.len
    replace O_a := Lib.hid (Lift.own_blw O_a.out b_k)
    replace O_b := Lib.hid (Lift.own_blw O_b.out b_k)
    replace O_p := Lib.hid (Lift.own_blw O_p.out b_k)
    replace O_s := Lib.hid (Lift.own_blw O_s.out b_k)
    replace O_d := Lib.hid (Lift.own_blw O_d.out b_k)
    replace O_e := Lib.hid (Lift.own_blw O_e.out b_k)
    replace O_f := Lib.hid (Lift.own_blw O_f.out b_k)
    replace O_g := Lib.hid (Lift.own_blw O_g.out b_k)
    replace O_h := Lib.hid (Lift.own_blw O_h.out b_k)
    replace O_k := Lib.hid (Lift.own_blw O_k.out b_k)
    replace O_x := Lib.hid (Lift.own_blw O_x.out b_k)
    replace O_y := Lib.hid (Lift.own_blw O_y.out b_k)
    replace B := Lib.hid (B.out.trans (b_k.mono B.out.size))
    clear b_k o_z
    obtain ⟨W30, hV⟩ : ∃ V, Lift.re W29 τ 0 = V := ⟨_, rfl⟩
    rw [hV]
    replace B := Lib.hid (B.out.at hV)
    have Z_W30 : W29.heap.size ≤ W30.heap.size := by rw [← hV]; exact Nat.le_refl _
    replace O_a := Lib.hid (Lift.own_at O_a.out hV)
    replace O_b := Lib.hid (Lift.own_at O_b.out hV)
    replace O_p := Lib.hid (Lift.own_at O_p.out hV)
    replace O_s := Lib.hid (Lift.own_at O_s.out hV)
    replace O_d := Lib.hid (Lift.own_at O_d.out hV)
    replace O_e := Lib.hid (Lift.own_at O_e.out hV)
    replace O_f := Lib.hid (Lift.own_at O_f.out hV)
    replace O_g := Lib.hid (Lift.own_at O_g.out hV)
    replace O_h := Lib.hid (Lift.own_at O_h.out hV)
    replace O_k := Lib.hid (Lift.own_at O_k.out hV)
    replace O_x := Lib.hid (Lift.own_at O_x.out hV)
    replace O_y := Lib.hid (Lift.own_at O_y.out hV)
    replace O_z := Lib.hid (Lift.own_at O_z.out hV)
    clear hV
    go_wp2
    try refine ⟨rfl, rfl, ?_⟩
    try dsimp only
    have h_z : n_z ≤ 20 := by rw [← L_z.out]; exact pl.out
    refine Lift.KW.last (d := d13) rL (by kernel_rfl) fun τ => ?_
    simp only [d13, Lift.dropS, bL, Try.f5, Option.getD_some]
    obtain ⟨W31, hV⟩ : ∃ V, Lift.re W30 τ 0 = V := ⟨_, rfl⟩
    rw [hV]
    replace B := Lib.hid (B.out.at hV)
    have Z_W31 : W30.heap.size ≤ W31.heap.size := by rw [← hV]; exact Nat.le_refl _
    replace O_a := Lib.hid (Lift.own_at O_a.out hV)
    replace O_b := Lib.hid (Lift.own_at O_b.out hV)
    replace O_p := Lib.hid (Lift.own_at O_p.out hV)
    replace O_s := Lib.hid (Lift.own_at O_s.out hV)
    replace O_d := Lib.hid (Lift.own_at O_d.out hV)
    replace O_e := Lib.hid (Lift.own_at O_e.out hV)
    replace O_f := Lib.hid (Lift.own_at O_f.out hV)
    replace O_g := Lib.hid (Lift.own_at O_g.out hV)
    replace O_h := Lib.hid (Lift.own_at O_h.out hV)
    replace O_k := Lib.hid (Lift.own_at O_k.out hV)
    replace O_x := Lib.hid (Lift.own_at O_x.out hV)
    replace O_y := Lib.hid (Lift.own_at O_y.out hV)
    replace O_z := Lib.hid (Lift.own_at O_z.out hV)
    clear hV
    go_wp2_with fail
    refine (laws_loInts _ _ _ _ _ _ _ _ _ O_z.out.sl O_s.out.sl (by omega) (by omega)).mono ?_
    rintro e W32 hd
    obtain ⟨rfl, b_d⟩ := hd.below
    have Z_W32 : W31.heap.size ≤ W32.heap.size := b_d.size
    clear hd
    replace O_a := Lib.hid (O_a.out.below b_d)
    replace O_b := Lib.hid (O_b.out.below b_d)
    replace O_p := Lib.hid (O_p.out.below b_d)
    replace O_s := Lib.hid (O_s.out.below b_d)
    replace O_d := Lib.hid (O_d.out.below b_d)
    replace O_e := Lib.hid (O_e.out.below b_d)
    replace O_f := Lib.hid (O_f.out.below b_d)
    replace O_g := Lib.hid (O_g.out.below b_d)
    replace O_h := Lib.hid (O_h.out.below b_d)
    replace O_k := Lib.hid (O_k.out.below b_d)
    replace O_x := Lib.hid (O_x.out.below b_d)
    replace O_y := Lib.hid (O_y.out.below b_d)
    replace O_z := Lib.hid (O_z.out.below b_d)
    replace B := Lib.hid (B.out.next b_d)
    clear b_d
    go_wp2
    exact .inr ⟨rfl, rfl, .inr rfl, rfl, _, _, Try.func5, by kernel_rfl, rfl, B.out⟩

/-! ### THE ROW's STEP: WRITTEN OUT: LEAVE IT -/
set_option maxRecDepth 100000 in
theorem lifted (os : Os) (started : os.Started) (H : Type) (enc : TypeId × Value → H) :
    ReturnsInLeavingWide {} Try.checked os 5 .any (Rows.fnShareSumSpec.pre6 enc Try.prog Try.f5 Rows.fnShareSumRow.domain false) (Rows.fnShareSumSpec.post enc Try.prog Try.f5 false true false false) := by
  refine returnsInLeavingWide_of_change_sized (C := Try.checked) own started Try.func5
    (ChangeSpec.witness6 (enc := enc) (C := Try.checked) false ⟨#[], #[.slice none 0 0, .slice none 0 0], []⟩ 8 (by kernel_rfl) (by kernel_rfl) (by kernel_rfl) (by kernel_rfl)) ?_
  intro W base args ds gs before hval0 hW hcnd _ _
  have hval : ∀ (j : Nat) t v, Try.f5.params[j]? = some t → args[j]? = some v → Value.okWide Try.prog W .any base t v := hval0
  have hW' := hW
  obtain ⟨p, q, hA0, hV, rfl, hfz, hnd⟩ := hW
  have hA : DataW.TrodAll enc Try.prog W 0 (fun _ => true) true Try.f5.params.toList args.toList ds p := hA0
  rw [Try.params5] at hA hval
  obtain ⟨v0, vs0, d0, ds0, p0, q0, hargs, rfl, rfl, h0, r0⟩ := trodAll_cons hA
  obtain ⟨v1, vs1, d1, ds1, p1, q1, rfl, rfl, rfl, h1, r1⟩ := trodAll_cons r0
  obtain ⟨rfl, rfl, rfl⟩ := trodAll_nil r1
  obtain rfl : args = #[v0, v1] := by cases args; simp_all
  obtain ⟨rfl, rfl⟩ := trodVars_none hV
  obtain ⟨a0, len0, cap0, rfl⟩ := okWide_slice Try.underlying22 (hval 0 22 v0 rfl rfl)
  have k0 := h0
  have lt0 : ∀ x ∈ p0, x.block < W.heap.size := by obtain ⟨m, hm⟩ := k0; exact DataW.trod_lt m _ _ _ hm
  obtain ⟨z0, w0⟩ : ∃ zs, IsRow .u8 W a0 len0 cap0 zs := by
    obtain ⟨fuel, hf⟩ := h0
    rcases open_ints Try.underlying22 Try.underlying5 (by kernel_rfl) hf with ⟨hcs, _⟩ | ⟨x, l, c, zs, hcs, _, hl, hm, hz, _, hcell, hwz⟩
    · simp [Value.cells] at hcs
      obtain ⟨rfl, rfl, rfl⟩ := hcs
      exact ⟨[], .inl ⟨rfl, rfl, rfl, rfl⟩⟩
    · simp [Value.cells] at hcs
      obtain ⟨rfl, rfl, rfl⟩ := hcs
      exact ⟨zs, .inr ⟨_, rfl, hl, hm, by simpa using hz, hcell, hwz⟩⟩
  obtain ⟨a1, len1, cap1, rfl⟩ := okWide_slice Try.underlying22 (hval 1 22 v1 rfl rfl)
  have k1 := h1
  have lt1 : ∀ x ∈ p1, x.block < W.heap.size := by obtain ⟨m, hm⟩ := k1; exact DataW.trod_lt m _ _ _ hm
  obtain ⟨z1, w1⟩ : ∃ zs, IsRow .u8 W a1 len1 cap1 zs := by
    obtain ⟨fuel, hf⟩ := h1
    rcases open_ints Try.underlying22 Try.underlying5 (by kernel_rfl) hf with ⟨hcs, _⟩ | ⟨x, l, c, zs, hcs, _, hl, hm, hz, _, hcell, hwz⟩
    · simp [Value.cells] at hcs
      obtain ⟨rfl, rfl, rfl⟩ := hcs
      exact ⟨[], .inl ⟨rfl, rfl, rfl, rfl⟩⟩
    · simp [Value.cells] at hcs
      obtain ⟨rfl, rfl, rfl⟩ := hcs
      exact ⟨zs, .inr ⟨_, rfl, hl, hm, by simpa using hz, hcell, hwz⟩⟩
  clear hA0 hval0
  obtain ⟨M, last, o, w', t', g1, g2, g3, g4⟩ := Lift.K.done (walk a0 len0 cap0 z0 a1 len1 cap1 z1 W w0 w1)
  refine ⟨M, last, o, w', t', g1, g2, g3, g4.mono fun v hp => ?_⟩
  obtain ⟨rfl, bel0⟩ := hp
  have bel := bel0.below
  exact ⟨_, _, _, [], _, [], hW', trodAll_mk1 (shut_bool Try.underlying4 _), DataW.TrodAll.of_heap (w := Lift.re w' W.tape w'.drawn) (w' := w') rfl (trodAll_cons_mk (Below.trod laidOut (by kernel_rfl) (of_decide_eq_true (by kernel_rfl)) k0 bel lt0) (trodAll_cons_mk (Below.trod laidOut (by kernel_rfl) (of_decide_eq_true (by kernel_rfl)) k1 bel lt1) trodAll_mk0)), rfl, bel0.frame _, fun h => by cases h⟩

theorem over : Rows.fnShareSumRow.holds Try.pinned (OpenSpec.ofChange Rows.fnShareSumSpec) :=
  OpenClaim.holds_of_wide_leaving 5 Try.f5 rfl rfl rfl rfl rfl rfl rfl ⟨rfl, rfl, rfl, rfl, rfl⟩ rfl rfl rfl rfl rfl (by kernel_rfl) Try.func5 (by kernel_rfl)
    (of_decide_eq_true (by kernel_rfl)) (by unfold Func.isWrapper; first | (rw [if_pos (by decide +kernel)]; kernel_rfl) | (rw [if_neg (by decide +kernel)]; exact ⟨rfl, rfl⟩))
    (fun os started H enc _ => lifted os started H enc)

/-- ████ THE STATEMENT ████ -/
theorem proved : Rows.FnShareSumSaid := over
#print axioms proved
end Go.Proofs.Ytadngncbbbbapaa.fnShareSum
