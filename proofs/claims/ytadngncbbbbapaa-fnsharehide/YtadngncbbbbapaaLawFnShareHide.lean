/-
  One share fits all numbers alike: whatever the numbers there is something drawn with which they have it, and something else gives another: the law FnShareHide returns true for every two codes.
  Conditions: none but the statement's own. Proved: Rows.FnShareHideSaid.
-/
import Derived.Test.YtadngncbbbbapaaRows
import Derived.WalkKit
import Derived.ProofKit
import Derived.OpenShut
import Derived.ShutString
import Derived.ChangeOld
import Derived.Below
import Derived.Test.YtadngncbbbbapaaFp
import Derived.Test.YtadngncbbbbapaaBase
import Derived.Test.YtadngncbbbbapaaField
import Derived.Test.YtadngncbbbbapaaSl
import Derived.Test.YtadngncbbbbapaaLw
import Derived.Test.YtadngncbbbbapaaCat
import Derived.Test.YtadngncbbbbapaaKlaw
import Derived.Test.YtadngncbbbbapaaShk
import Derived.Test.YtadngncbbbbapaaShs
import Derived.Test.YtadngncbbbbapaaShm
import Derived.Test.YtadngncbbbbapaaShp
import Derived.Test.YtadngncbbbbapaaShw
import Derived.Test.YtadngncbbbbapaaDraw
import Derived.Test.YtadngncbbbbapaaDlist
import Derived.Test.YtadngncbbbbapaaDtwo
import Derived.Test.YtadngncbbbbapaaKay
import Derived.Conc.Holds
import Derived.Leaving
import Derived.Conc.LeavingOf
import Derived.ChangeFn
namespace Go.Proofs.Ytadngncbbbbapaa.fnShareHide
open Go.ChangeShapes Go.WideShapes Go.ChangeAt Go.RowKit
open Go.ChangeMaps (open_string shut_string)
set_option linter.unusedVariables false
set_option linter.unusedSimpArgs false

theorem own : ownKnob Try.prog.godebug = none := by kernel_rfl
theorem laidOut : laidOutB Try.prog = true := by kernel_rfl

noncomputable def bL : Code := Try.f4.body.getD .skip
theorem hL : Try.f4.body = some bL := by kernel_rfl
theorem rL : Lift.ResOk Try.prog 4 := ⟨_, Try.func4, fun tmps => ⟨_, by simp [results, Try.f4]; rfl⟩⟩
noncomputable def d0 : Code := bL
noncomputable def y0_2 : Code := Lift.takeS 1 d0
noncomputable def d2 : Code := Lift.dropS 1 bL
noncomputable def y0_4 : Code := Lift.takeS 3 d0
noncomputable def d4 : Code := Lift.dropS 3 bL
noncomputable def d5 : Code := Lift.dropS 4 bL
noncomputable def p4 : List Oper := (Lift.opsS d4).take 2
noncomputable def o4 : Oper := (Lift.opsS d4).getD 2 default
noncomputable def q4 : List Oper := (Lift.opsS d4).drop 3
noncomputable def y5_1 : Code := Lift.takeS 0 d5
noncomputable def d6 : Code := Lift.dropS 5 bL
noncomputable def d7 : Code := Lift.dropS 6 bL
noncomputable def p6 : List Oper := (Lift.opsS d6).take 2
noncomputable def o6 : Oper := (Lift.opsS d6).getD 2 default
noncomputable def q6 : List Oper := (Lift.opsS d6).drop 3
noncomputable def y7_1 : Code := Lift.takeS 0 d7
noncomputable def d8 : Code := Lift.dropS 7 bL
noncomputable def d9 : Code := Lift.dropS 8 bL
noncomputable def p8 : List Oper := (Lift.opsS d8).take 2
noncomputable def o8 : Oper := (Lift.opsS d8).getD 2 default
noncomputable def q8 : List Oper := (Lift.opsS d8).drop 3
noncomputable def d10 : Code := Lift.dropS 9 bL
noncomputable def p9 : List Oper := (Lift.opsS d9).take 2
noncomputable def o9 : Oper := (Lift.opsS d9).getD 2 default
noncomputable def q9 : List Oper := (Lift.opsS d9).drop 3
noncomputable def y10_2 : Code := Lift.takeS 1 d10
noncomputable def d12 : Code := Lift.dropS 11 bL
noncomputable def y10_4 : Code := Lift.takeS 3 d10
noncomputable def d14 : Code := Lift.dropS 13 bL
noncomputable def d15 : Code := Lift.dropS 14 bL
noncomputable def p14 : List Oper := (Lift.opsS d14).take 2
noncomputable def o14 : Oper := (Lift.opsS d14).getD 2 default
noncomputable def q14 : List Oper := (Lift.opsS d14).drop 3
set_option maxHeartbeats 1000000 in
set_option maxRecDepth 100000 in
theorem walk (a0 : Option Addr) (len0 cap0 : Nat) (z0 : List Int) (a1 : Option Addr) (len1 cap1 : Nat) (z1 : List Int) (w : World) (w0 : IsRow .u8 w a0 len0 cap0 z0) (w1 : IsRow .u8 w a1 len1 cap1 z1) :
    Lift.K Try.prog w.heap.size (Go.Conc.G (Frame.enter Try.prog 4 #[.slice a0 len0 cap0, .slice a1 len1 cap1] .normal) []) w (Lift.AtRet Try.prog w.heap.size fun x w' => x = .bool true ∧ Lift.Blw w.heap.size w w') := by
  obtain ⟨c1, c2⟩ := w0.sizes
  have Hb := Lib.hid (Bys.of_row w0)
  clear w0 w1
  refine Lift.KW.law Try.func4 hL (by kernel_rfl) ?_
  simp only [Try.ntmps4, List.size_toArray, List.length_cons, List.length_nil, Nat.reduceAdd, Nat.reduceSub, Array.replicate_succ, Array.replicate_zero, List.push_toArray, List.append_toArray, List.nil_append, List.cons_append]
  rw [show bL = d0 from rfl]
  have B := Lib.hid (Lift.Blw.refl w.heap.size w)
  by_cases hl : 1048576 < len0
  · skip
    refine Lift.KW.stmts 1 (d := d0) (y := y0_2) (z := d2) rL (by kernel_rfl) (by kernel_rfl) (by kernel_rfl) fun τ => ?_
    simp only [y0_2, Lift.takeS, d0, Lift.dropS, bL, Try.f4, Option.getD_some]
    obtain ⟨W1, hV⟩ : ∃ V, Lift.re w τ 0 = V := ⟨_, rfl⟩
    rw [hV]
    replace B := Lib.hid (B.out.at hV)
    have Z_W1 : w.heap.size ≤ W1.heap.size := by rw [← hV]; exact Nat.le_refl _
    clear hV
    go_wp2
    exact .inr ⟨rfl, rfl, .inr rfl, rfl, _, _, Try.func4, by kernel_rfl, rfl, B.out⟩
  by_cases hl' : 1048576 < len1
  · skip
    refine Lift.KW.stmts 1 (d := d0) (y := y0_2) (z := d2) rL (by kernel_rfl) (by kernel_rfl) (by kernel_rfl) fun τ => ?_
    simp only [y0_2, Lift.takeS, d0, Lift.dropS, bL, Try.f4, Option.getD_some]
    obtain ⟨W2, hV⟩ : ∃ V, Lift.re w τ 0 = V := ⟨_, rfl⟩
    rw [hV]
    replace B := Lib.hid (B.out.at hV)
    have Z_W2 : w.heap.size ≤ W2.heap.size := by rw [← hV]; exact Nat.le_refl _
    clear hV
    go_wp2
    exact .inr ⟨rfl, rfl, .inr rfl, rfl, _, _, Try.func4, by kernel_rfl, rfl, B.out⟩
  refine Lift.KW.stmts 3 (d := d0) (y := y0_4) (z := d4) rL (by kernel_rfl) (by kernel_rfl) (by kernel_rfl) fun τ => ?_
  simp only [y0_4, Lift.takeS, d0, Lift.dropS, bL, Try.f4, Option.getD_some]
  obtain ⟨W3, hV⟩ : ∃ V, Lift.re w τ 0 = V := ⟨_, rfl⟩
  rw [hV]
  replace B := Lib.hid (B.out.at hV)
  have Z_W3 : w.heap.size ≤ W3.heap.size := by rw [← hV]; exact Nat.le_refl _
  replace Hb := Lib.hid (Lift.bys_at Hb.out hV)
  clear hV
  go_wp2_with fail
  refine (spec_DrawShareDrawn a0 len0 cap0 _ Hb.out c1 c2).mono ?_
  rintro e W4 ⟨a_v, n_v, c_v, a_u, n_u, c_u, vs, us, h_v, h_u, rfl, o_v, o_u, b_d⟩
  have Z_W4 : W3.heap.size ≤ W4.heap.size := b_d.size
  have O_v := Lib.hid o_v
  have L_v := Lib.hid o_v.len
  have O_u := Lib.hid o_u
  have L_u := Lib.hid o_u.len
  replace B := Lib.hid (B.out.next b_d)
  clear b_d o_v o_u
  clear c1 c2 Hb
  have e1 := eqB_self (Lift.sub vs us)
  have pl := Lib.hid (Lift.comb_len (g := fun x y => (x - y) % 31) (xs := vs) (ys := us))
  go_wp2_with fail
  refine (spec_ShareDrawn _ _ _ _ _ _ _ _ _ O_v.out.sl O_u.out.sl (by omega) (by omega)).mono ?_
  rintro e W5 ⟨a_p, n_p, c_p, rfl, o_p, b_p⟩
  have O_p := Lib.hid o_p
  have L_p := Lib.hid o_p.len
  have Z_W5 : W4.heap.size ≤ W5.heap.size := b_p.size
  replace O_v := Lib.hid (O_v.out.below b_p)
  replace O_u := Lib.hid (O_u.out.below b_p)
  replace B := Lib.hid (B.out.next b_p)
  clear o_p b_p
  have h_p : n_p ≤ 20 := by rw [← L_p.out]; exact pl.out
  replace O_p : Hid (Own _ _ _ a_p n_p c_p (Lift.sub vs us)) := O_p
  go_wp2
  refine .inl ⟨rfl, rfl, ?_⟩
  try dsimp only
  refine Lift.KW.callS (id := 5) (d := d4) (z := d5) (m1 := p4) (m2 := q4) (o := o4) (f := 20) (args := fun a => #[a.eval (.tmp 45), a.eval (.tmp 46)]) (by kernel_rfl) (by kernel_rfl) (by kernel_rfl) (fun ys => by kernel_rfl) (fun tm w => by kernel_rfl) fun τ => ?_
  simp only [p4, q4, o4, Lift.opsS, d4, Lift.dropS, bL, Try.f4, Option.getD_some, List.take_succ_cons, List.take_zero, List.drop_succ_cons, List.drop_zero, List.getD_cons_succ, List.getD_cons_zero, List.cons_append, List.nil_append]
  obtain ⟨W6, hV⟩ : ∃ V, Lift.re W5 τ 0 = V := ⟨_, rfl⟩
  rw [hV]
  replace B := Lib.hid (B.out.at hV)
  have Z_W6 : W5.heap.size ≤ W6.heap.size := by rw [← hV]; exact Nat.le_refl _
  replace O_v := Lib.hid (Lift.own_at O_v.out hV)
  replace O_u := Lib.hid (Lift.own_at O_u.out hV)
  replace O_p := Lib.hid (Lift.own_at O_p.out hV)
  clear hV
  go_wp2
  try refine ⟨rfl, rfl, ?_⟩
  refine (Lift.ShareDrawn_k B.out.size O_v.out.sl O_u.out.sl O_v.out.le O_u.out.le).mono ?_
  rintro r W7 ⟨a_d, n_d, c_d, rfl, o_d, b_k⟩ τ
  have Z_W7 : W6.heap.size ≤ W7.heap.size := b_k.size
  have O_d := Lib.hid o_d
  have L_d := Lib.hid o_d.len
  replace O_v := Lib.hid (Lift.own_blw O_v.out b_k)
  replace O_u := Lib.hid (Lift.own_blw O_u.out b_k)
  replace O_p := Lib.hid (Lift.own_blw O_p.out b_k)
  replace B := Lib.hid (B.out.trans (b_k.mono B.out.size))
  clear b_k o_d
  obtain ⟨W8, hV⟩ : ∃ V, Lift.re W7 τ 0 = V := ⟨_, rfl⟩
  rw [hV]
  replace B := Lib.hid (B.out.at hV)
  have Z_W8 : W7.heap.size ≤ W8.heap.size := by rw [← hV]; exact Nat.le_refl _
  replace O_v := Lib.hid (Lift.own_at O_v.out hV)
  replace O_u := Lib.hid (Lift.own_at O_u.out hV)
  replace O_p := Lib.hid (Lift.own_at O_p.out hV)
  replace O_d := Lib.hid (Lift.own_at O_d.out hV)
  clear hV
  go_wp2
  try refine ⟨rfl, rfl, ?_⟩
  try dsimp only
  have h_d : n_d ≤ 20 := by rw [← L_d.out]; exact pl.out
  replace O_d : Hid (Own _ _ _ a_d n_d c_d (Lift.sub vs us)) := O_d
  cases hf : Fp.fit vs us
  · skip
    refine Lift.KW.stmts 0 (d := d5) (y := y5_1) (z := d6) rL (by kernel_rfl) (by kernel_rfl) (by kernel_rfl) fun τ => ?_
    simp only [y5_1, Lift.takeS, d5, Lift.dropS, bL, Try.f4, Option.getD_some]
    obtain ⟨W9, hV⟩ : ∃ V, Lift.re W8 τ 0 = V := ⟨_, rfl⟩
    rw [hV]
    replace B := Lib.hid (B.out.at hV)
    have Z_W9 : W8.heap.size ≤ W9.heap.size := by rw [← hV]; exact Nat.le_refl _
    replace O_v := Lib.hid (Lift.own_at O_v.out hV)
    replace O_u := Lib.hid (Lift.own_at O_u.out hV)
    replace O_p := Lib.hid (Lift.own_at O_p.out hV)
    replace O_d := Lib.hid (Lift.own_at O_d.out hV)
    clear hV
    go_wp2_with fail
    refine (laws_loInts _ _ _ _ _ _ _ _ _ O_d.out.sl O_p.out.sl (by omega) (by omega)).mono ?_
    rintro e W10 hd
    obtain ⟨rfl, b_d⟩ := hd.below
    have Z_W10 : W9.heap.size ≤ W10.heap.size := b_d.size
    clear hd
    replace O_v := Lib.hid (O_v.out.below b_d)
    replace O_u := Lib.hid (O_u.out.below b_d)
    replace O_p := Lib.hid (O_p.out.below b_d)
    replace O_d := Lib.hid (O_d.out.below b_d)
    replace B := Lib.hid (B.out.next b_d)
    clear b_d
    go_wp2_with fail
    refine (laws_loInts _ _ _ _ _ _ _ _ _ O_d.out.sl O_p.out.sl (by omega) (by omega)).mono ?_
    rintro e W11 hd
    obtain ⟨rfl, b_d⟩ := hd.below
    have Z_W11 : W10.heap.size ≤ W11.heap.size := b_d.size
    clear hd
    replace O_v := Lib.hid (O_v.out.below b_d)
    replace O_u := Lib.hid (O_u.out.below b_d)
    replace O_p := Lib.hid (O_p.out.below b_d)
    replace O_d := Lib.hid (O_d.out.below b_d)
    replace B := Lib.hid (B.out.next b_d)
    clear b_d
    go_wp2
    exact .inr ⟨rfl, rfl, .inr rfl, rfl, _, _, Try.func4, by kernel_rfl, rfl, B.out⟩
  · skip
    obtain ⟨s1, s2, s3⟩ := Lift.fit_parts hf
    have hw : Fp.fit (some_ len1 n_v) us = true := Lift.fit_of (Lift.some_sok _ _ (by omega)) s2 (by rw [some_len, ← s3]; exact L_v.out.symm)
    obtain ⟨f1, f2⟩ := Lift.sub_sub hf
    obtain ⟨f3, f4⟩ := Lift.sub_sub hw
    have sd := Lib.hid (Lift.sub_size hf)
    have nd := Lib.hid (show n_d = n_v by rw [← L_d.out, ← L_v.out]; exact sd.out)
    have e2 := eqB_self us
    refine Lift.KW.stmts 0 (d := d5) (y := y5_1) (z := d6) rL (by kernel_rfl) (by kernel_rfl) (by kernel_rfl) fun τ => ?_
    simp only [y5_1, Lift.takeS, d5, Lift.dropS, bL, Try.f4, Option.getD_some]
    obtain ⟨W12, hV⟩ : ∃ V, Lift.re W8 τ 0 = V := ⟨_, rfl⟩
    rw [hV]
    replace B := Lib.hid (B.out.at hV)
    have Z_W12 : W8.heap.size ≤ W12.heap.size := by rw [← hV]; exact Nat.le_refl _
    replace O_v := Lib.hid (Lift.own_at O_v.out hV)
    replace O_u := Lib.hid (Lift.own_at O_u.out hV)
    replace O_p := Lib.hid (Lift.own_at O_p.out hV)
    replace O_d := Lib.hid (Lift.own_at O_d.out hV)
    clear hV
    go_wp2_with fail
    refine (laws_loInts _ _ _ _ _ _ _ _ _ O_d.out.sl O_p.out.sl (by omega) (by omega)).mono ?_
    rintro e W13 hd
    obtain ⟨rfl, b_d⟩ := hd.below
    have Z_W13 : W12.heap.size ≤ W13.heap.size := b_d.size
    clear hd
    replace O_v := Lib.hid (O_v.out.below b_d)
    replace O_u := Lib.hid (O_u.out.below b_d)
    replace O_p := Lib.hid (O_p.out.below b_d)
    replace O_d := Lib.hid (O_d.out.below b_d)
    replace B := Lib.hid (B.out.next b_d)
    clear b_d
    go_wp2
    refine .inl ⟨rfl, rfl, ?_⟩
    try dsimp only
    refine Lift.KW.callS (id := 8) (d := d6) (z := d7) (m1 := p6) (m2 := q6) (o := o6) (f := 15) (args := fun a => #[a.eval (.tmp 72), a.eval (.tmp 73)]) (by kernel_rfl) (by kernel_rfl) (by kernel_rfl) (fun ys => by kernel_rfl) (fun tm w => by kernel_rfl) fun τ => ?_
    simp only [p6, q6, o6, Lift.opsS, d6, Lift.dropS, bL, Try.f4, Option.getD_some, List.take_succ_cons, List.take_zero, List.drop_succ_cons, List.drop_zero, List.getD_cons_succ, List.getD_cons_zero, List.cons_append, List.nil_append]
    obtain ⟨W14, hV⟩ : ∃ V, Lift.re W13 τ 0 = V := ⟨_, rfl⟩
    rw [hV]
    replace B := Lib.hid (B.out.at hV)
    have Z_W14 : W13.heap.size ≤ W14.heap.size := by rw [← hV]; exact Nat.le_refl _
    replace O_v := Lib.hid (Lift.own_at O_v.out hV)
    replace O_u := Lib.hid (Lift.own_at O_u.out hV)
    replace O_p := Lib.hid (Lift.own_at O_p.out hV)
    replace O_d := Lib.hid (Lift.own_at O_d.out hV)
    clear hV
    go_wp2
    try refine ⟨rfl, rfl, ?_⟩
    refine (Lift.make_k f1 f2 B.out.size O_v.out.sl O_d.out.sl O_v.out.le O_d.out.le).mono ?_
    rintro r W15 ⟨m_x, a_x, n_x, c_x, a_f, n_f, c_f, rfl, M_x, M_f, o_x, o_f, b_k⟩ τ
    have Z_W15 : W14.heap.size ≤ W15.heap.size := b_k.size
    have O_x := Lib.hid o_x
    have L_x := Lib.hid o_x.len
    have O_f := Lib.hid o_f
    have L_f := Lib.hid o_f.len
    replace O_v := Lib.hid (Lift.own_blw O_v.out b_k)
    replace O_u := Lib.hid (Lift.own_blw O_u.out b_k)
    replace O_p := Lib.hid (Lift.own_blw O_p.out b_k)
    replace O_d := Lib.hid (Lift.own_blw O_d.out b_k)
    replace B := Lib.hid (B.out.trans (b_k.mono B.out.size))
    clear b_k o_x o_f
    obtain ⟨W16, hV⟩ : ∃ V, Lift.re W15 τ 0 = V := ⟨_, rfl⟩
    rw [hV]
    replace B := Lib.hid (B.out.at hV)
    have Z_W16 : W15.heap.size ≤ W16.heap.size := by rw [← hV]; exact Nat.le_refl _
    replace O_v := Lib.hid (Lift.own_at O_v.out hV)
    replace O_u := Lib.hid (Lift.own_at O_u.out hV)
    replace O_p := Lib.hid (Lift.own_at O_p.out hV)
    replace O_d := Lib.hid (Lift.own_at O_d.out hV)
    replace O_x := Lib.hid (Lift.own_at O_x.out hV)
    replace O_f := Lib.hid (Lift.own_at O_f.out hV)
    clear hV
    go_wp2
    try refine ⟨rfl, rfl, ?_⟩
    try dsimp only
    have h_x : n_x ≤ 13 := by rw [← L_x.out, L_u.out]; exact h_u
    refine Lift.KW.stmts 0 (d := d7) (y := y7_1) (z := d8) rL (by kernel_rfl) (by kernel_rfl) (by kernel_rfl) fun τ => ?_
    simp only [y7_1, Lift.takeS, d7, Lift.dropS, bL, Try.f4, Option.getD_some]
    obtain ⟨W17, hV⟩ : ∃ V, Lift.re W16 τ 0 = V := ⟨_, rfl⟩
    rw [hV]
    replace B := Lib.hid (B.out.at hV)
    have Z_W17 : W16.heap.size ≤ W17.heap.size := by rw [← hV]; exact Nat.le_refl _
    replace O_v := Lib.hid (Lift.own_at O_v.out hV)
    replace O_u := Lib.hid (Lift.own_at O_u.out hV)
    replace O_p := Lib.hid (Lift.own_at O_p.out hV)
    replace O_d := Lib.hid (Lift.own_at O_d.out hV)
    replace O_x := Lib.hid (Lift.own_at O_x.out hV)
    replace O_f := Lib.hid (Lift.own_at O_f.out hV)
    clear hV
    go_wp2_with fail
    refine (laws_loSome len1 n_v _ (by omega) (by omega)).mono ?_
    rintro e W18 ⟨a_s, n_s, c_s, rfl, o_s, b_s⟩
    have O_s := Lib.hid o_s
    have L_s := Lib.hid o_s.len
    have Z_W18 : W17.heap.size ≤ W18.heap.size := b_s.size
    replace O_v := Lib.hid (O_v.out.below b_s)
    replace O_u := Lib.hid (O_u.out.below b_s)
    replace O_p := Lib.hid (O_p.out.below b_s)
    replace O_d := Lib.hid (O_d.out.below b_s)
    replace O_x := Lib.hid (O_x.out.below b_s)
    replace O_f := Lib.hid (O_f.out.below b_s)
    replace B := Lib.hid (B.out.next b_s)
    clear o_s b_s
    go_wp2
    refine .inl ⟨rfl, rfl, ?_⟩
    try dsimp only
    refine Lift.KW.callS (id := 10) (d := d8) (z := d9) (m1 := p8) (m2 := q8) (o := o8) (f := 20) (args := fun a => #[a.eval (.tmp 84), a.eval (.tmp 85)]) (by kernel_rfl) (by kernel_rfl) (by kernel_rfl) (fun ys => by kernel_rfl) (fun tm w => by kernel_rfl) fun τ => ?_
    simp only [p8, q8, o8, Lift.opsS, d8, Lift.dropS, bL, Try.f4, Option.getD_some, List.take_succ_cons, List.take_zero, List.drop_succ_cons, List.drop_zero, List.getD_cons_succ, List.getD_cons_zero, List.cons_append, List.nil_append]
    obtain ⟨W19, hV⟩ : ∃ V, Lift.re W18 τ 0 = V := ⟨_, rfl⟩
    rw [hV]
    replace B := Lib.hid (B.out.at hV)
    have Z_W19 : W18.heap.size ≤ W19.heap.size := by rw [← hV]; exact Nat.le_refl _
    replace O_v := Lib.hid (Lift.own_at O_v.out hV)
    replace O_u := Lib.hid (Lift.own_at O_u.out hV)
    replace O_p := Lib.hid (Lift.own_at O_p.out hV)
    replace O_d := Lib.hid (Lift.own_at O_d.out hV)
    replace O_x := Lib.hid (Lift.own_at O_x.out hV)
    replace O_f := Lib.hid (Lift.own_at O_f.out hV)
    replace O_s := Lib.hid (Lift.own_at O_s.out hV)
    clear hV
    go_wp2
    try refine ⟨rfl, rfl, ?_⟩
    refine (Lift.drawn_k hw rfl B.out.size O_s.out.sl O_u.out.sl O_s.out.le O_u.out.le).mono ?_
    rintro r W20 ⟨a_e, n_e, c_e, rfl, o_e, b_k⟩ τ
    have Z_W20 : W19.heap.size ≤ W20.heap.size := b_k.size
    have O_e := Lib.hid o_e
    have L_e := Lib.hid o_e.len
    replace O_v := Lib.hid (Lift.own_blw O_v.out b_k)
    replace O_u := Lib.hid (Lift.own_blw O_u.out b_k)
    replace O_p := Lib.hid (Lift.own_blw O_p.out b_k)
    replace O_d := Lib.hid (Lift.own_blw O_d.out b_k)
    replace O_x := Lib.hid (Lift.own_blw O_x.out b_k)
    replace O_f := Lib.hid (Lift.own_blw O_f.out b_k)
    replace O_s := Lib.hid (Lift.own_blw O_s.out b_k)
    replace B := Lib.hid (B.out.trans (b_k.mono B.out.size))
    clear b_k o_e
    obtain ⟨W21, hV⟩ : ∃ V, Lift.re W20 τ 0 = V := ⟨_, rfl⟩
    rw [hV]
    replace B := Lib.hid (B.out.at hV)
    have Z_W21 : W20.heap.size ≤ W21.heap.size := by rw [← hV]; exact Nat.le_refl _
    replace O_v := Lib.hid (Lift.own_at O_v.out hV)
    replace O_u := Lib.hid (Lift.own_at O_u.out hV)
    replace O_p := Lib.hid (Lift.own_at O_p.out hV)
    replace O_d := Lib.hid (Lift.own_at O_d.out hV)
    replace O_x := Lib.hid (Lift.own_at O_x.out hV)
    replace O_f := Lib.hid (Lift.own_at O_f.out hV)
    replace O_s := Lib.hid (Lift.own_at O_s.out hV)
    replace O_e := Lib.hid (Lift.own_at O_e.out hV)
    clear hV
    go_wp2
    try refine ⟨rfl, rfl, ?_⟩
    try dsimp only
    refine Lift.KW.callS (id := 11) (d := d9) (z := d10) (m1 := p9) (m2 := q9) (o := o9) (f := 15) (args := fun a => #[a.eval (.tmp 90), a.eval (.tmp 91)]) (by kernel_rfl) (by kernel_rfl) (by kernel_rfl) (fun ys => by kernel_rfl) (fun tm w => by kernel_rfl) fun τ => ?_
    simp only [p9, q9, o9, Lift.opsS, d9, Lift.dropS, bL, Try.f4, Option.getD_some, List.take_succ_cons, List.take_zero, List.drop_succ_cons, List.drop_zero, List.getD_cons_succ, List.getD_cons_zero, List.cons_append, List.nil_append]
    obtain ⟨W22, hV⟩ : ∃ V, Lift.re W21 τ 0 = V := ⟨_, rfl⟩
    rw [hV]
    replace B := Lib.hid (B.out.at hV)
    have Z_W22 : W21.heap.size ≤ W22.heap.size := by rw [← hV]; exact Nat.le_refl _
    replace O_v := Lib.hid (Lift.own_at O_v.out hV)
    replace O_u := Lib.hid (Lift.own_at O_u.out hV)
    replace O_p := Lib.hid (Lift.own_at O_p.out hV)
    replace O_d := Lib.hid (Lift.own_at O_d.out hV)
    replace O_x := Lib.hid (Lift.own_at O_x.out hV)
    replace O_f := Lib.hid (Lift.own_at O_f.out hV)
    replace O_s := Lib.hid (Lift.own_at O_s.out hV)
    replace O_e := Lib.hid (Lift.own_at O_e.out hV)
    clear hV
    go_wp2
    try refine ⟨rfl, rfl, ?_⟩
    refine (Lift.make_k f3 f4 B.out.size O_s.out.sl O_e.out.sl O_s.out.le O_e.out.le).mono ?_
    rintro r W23 ⟨m_y, a_y, n_y, c_y, a_g, n_g, c_g, rfl, M_y, M_g, o_y, o_g, b_k⟩ τ
    have Z_W23 : W22.heap.size ≤ W23.heap.size := b_k.size
    have O_y := Lib.hid o_y
    have L_y := Lib.hid o_y.len
    have O_g := Lib.hid o_g
    have L_g := Lib.hid o_g.len
    replace O_v := Lib.hid (Lift.own_blw O_v.out b_k)
    replace O_u := Lib.hid (Lift.own_blw O_u.out b_k)
    replace O_p := Lib.hid (Lift.own_blw O_p.out b_k)
    replace O_d := Lib.hid (Lift.own_blw O_d.out b_k)
    replace O_x := Lib.hid (Lift.own_blw O_x.out b_k)
    replace O_f := Lib.hid (Lift.own_blw O_f.out b_k)
    replace O_s := Lib.hid (Lift.own_blw O_s.out b_k)
    replace O_e := Lib.hid (Lift.own_blw O_e.out b_k)
    replace B := Lib.hid (B.out.trans (b_k.mono B.out.size))
    clear b_k o_y o_g
    obtain ⟨W24, hV⟩ : ∃ V, Lift.re W23 τ 0 = V := ⟨_, rfl⟩
    rw [hV]
    replace B := Lib.hid (B.out.at hV)
    have Z_W24 : W23.heap.size ≤ W24.heap.size := by rw [← hV]; exact Nat.le_refl _
    replace O_v := Lib.hid (Lift.own_at O_v.out hV)
    replace O_u := Lib.hid (Lift.own_at O_u.out hV)
    replace O_p := Lib.hid (Lift.own_at O_p.out hV)
    replace O_d := Lib.hid (Lift.own_at O_d.out hV)
    replace O_x := Lib.hid (Lift.own_at O_x.out hV)
    replace O_f := Lib.hid (Lift.own_at O_f.out hV)
    replace O_s := Lib.hid (Lift.own_at O_s.out hV)
    replace O_e := Lib.hid (Lift.own_at O_e.out hV)
    replace O_y := Lib.hid (Lift.own_at O_y.out hV)
    replace O_g := Lib.hid (Lift.own_at O_g.out hV)
    clear hV
    go_wp2
    try refine ⟨rfl, rfl, ?_⟩
    try dsimp only
    have h_y : n_y ≤ 13 := by rw [← L_y.out, L_u.out]; exact h_u
    clear O_p O_f O_g O_s O_e
    by_cases n0 : n_d = 0
    · skip
      have nb : ((n_d : Int) == 0) = true := by simp [n0]
      refine Lift.KW.stmts 1 (d := d10) (y := y10_2) (z := d12) rL (by kernel_rfl) (by kernel_rfl) (by kernel_rfl) fun τ => ?_
      simp only [y10_2, Lift.takeS, d10, Lift.dropS, bL, Try.f4, Option.getD_some]
      obtain ⟨W25, hV⟩ : ∃ V, Lift.re W24 τ 0 = V := ⟨_, rfl⟩
      rw [hV]
      replace B := Lib.hid (B.out.at hV)
      have Z_W25 : W24.heap.size ≤ W25.heap.size := by rw [← hV]; exact Nat.le_refl _
      replace O_v := Lib.hid (Lift.own_at O_v.out hV)
      replace O_u := Lib.hid (Lift.own_at O_u.out hV)
      replace O_d := Lib.hid (Lift.own_at O_d.out hV)
      replace O_x := Lib.hid (Lift.own_at O_x.out hV)
      replace O_y := Lib.hid (Lift.own_at O_y.out hV)
      clear hV
      have S1 := Lib.hid (O_d.out.sl.alloc (.cells #[] 3))
      have E1 := Lib.hid (own_empty W25.heap.size 3 W25 (Nat.le_refl _))
      go_wp2_with (at_builtin; (refine wpList_of_wp (by rfl) (wp_cat int_ty (.tmp 96) (.tmp 97) rfl W25.heap.size (xs := []) rfl rfl E1.out S1.out (by omega) (by simp) ?_)); intro a5 c5 w5 own5 bel5; simp only [Nat.zero_add, List.nil_append] at own5)
      have b5 := ((Below.refl W25.heap.size W25).alloc (Nat.le_refl _) (.cells #[] 3)).trans bel5
      have O_o := Lib.hid (Own.of_row own5)
      have Z_w5 : W25.heap.size ≤ w5.heap.size := b5.size
      replace O_v := Lib.hid (O_v.out.below b5)
      replace O_u := Lib.hid (O_u.out.below b5)
      replace O_d := Lib.hid (O_d.out.below b5)
      replace O_x := Lib.hid (O_x.out.below b5)
      replace O_y := Lib.hid (O_y.out.below b5)
      replace B := Lib.hid (B.out.next b5)
      have L_o := Lib.hid O_o.out.len
      exact .inr ⟨rfl, rfl, .inr rfl, rfl, _, _, Try.func4, by kernel_rfl, rfl, B.out⟩
    · skip
      have n0' : 0 < n_d := by omega
      have nb : ((n_d : Int) == 0) = false := by simp; omega
      obtain ⟨k, hk⟩ : ∃ k : Nat, (len1 : Int) % (n_d : Int) = (k : Int) := ⟨len1 % n_d, by simp⟩
      have k1 : k < n_d := by
        have := Int.emod_lt_of_pos (len1 : Int) (show (0 : Int) < (n_d : Int) by omega)
        omega
      have i0 : (0 : Int) ≤ (k : Int) := by omega
      have i1 : (k : Int) < (n_d : Int) := by omega
      obtain ⟨f5, f6⟩ := Lift.other_share hf (k := k) (by rw [L_v.out, ← nd.out]; exact k1)
      obtain ⟨ol, hol⟩ : ∃ ol, (Lift.sub vs us).set k (Fp.sum ((Lift.sub vs us).getD k 0) 1) = ol := ⟨_, rfl⟩
      rw [hol] at f5 f6
      have HOL := Lib.hid hol
      clear hol
      have e3 := eqB_false f6
      clear n0 f6
      refine Lift.KW.stmts 3 (d := d10) (y := y10_4) (z := d14) rL (by kernel_rfl) (by kernel_rfl) (by kernel_rfl) fun τ => ?_
      simp only [y10_4, Lift.takeS, d10, Lift.dropS, bL, Try.f4, Option.getD_some]
      obtain ⟨W26, hV⟩ : ∃ V, Lift.re W24 τ 0 = V := ⟨_, rfl⟩
      rw [hV]
      replace B := Lib.hid (B.out.at hV)
      have Z_W26 : W24.heap.size ≤ W26.heap.size := by rw [← hV]; exact Nat.le_refl _
      replace O_v := Lib.hid (Lift.own_at O_v.out hV)
      replace O_u := Lib.hid (Lift.own_at O_u.out hV)
      replace O_d := Lib.hid (Lift.own_at O_d.out hV)
      replace O_x := Lib.hid (Lift.own_at O_x.out hV)
      replace O_y := Lib.hid (Lift.own_at O_y.out hV)
      clear hV
      have S1 := Lib.hid (O_d.out.sl.alloc (.cells #[] 3))
      have E1 := Lib.hid (own_empty W26.heap.size 3 W26 (Nat.le_refl _))
      go_wp2_with (first | (at_builtin; (refine wpList_of_wp (by rfl) (wp_cat int_ty (.tmp 96) (.tmp 97) rfl W26.heap.size (xs := []) rfl rfl E1.out S1.out (by omega) (by simp) ?_)); intro a5 c5 w5 own5 bel5; simp only [Nat.zero_add, List.nil_append] at own5; obtain ⟨bo, fo, zo, rfl, lo1, lo2, hco, hfo, hzo⟩ := (Own.of_row own5).get k1; have OO := Lib.hid (Own.of_row own5); clear own5) | (go_at_call 22; (refine (impl_FieldSum _ _ _).mono ?_); rintro e w' ⟨rfl, rfl⟩))
      have b5 := ((Below.refl W26.heap.size W26).alloc (Nat.le_refl _) (.cells #[] 3)).trans bel5
      have b6 := b5.setCell (p := ⟨bo, fo + k, none⟩) lo1 (.int .i64 (Fp.sum zo 1))
      have O_o := Lib.hid (OO.out.set k1 (Fp.sum zo 1))
      rw [hzo.out] at O_o b6 ⊢
      clear OO bel5 b5 hco hfo
      obtain ⟨w6, hw6⟩ : ∃ w6, w5.setCell ⟨bo, fo + k, none⟩ (.int .i64 (Fp.sum (List.getD (Lift.sub vs us) k 0) 1)) = w6 := ⟨_, rfl⟩
      rw [hw6] at O_o b6 ⊢
      rw [HOL.out] at O_o
      clear hw6
      have Z_w6 : W26.heap.size ≤ w6.heap.size := b6.size
      replace O_v := Lib.hid (O_v.out.below b6)
      replace O_u := Lib.hid (O_u.out.below b6)
      replace O_d := Lib.hid (O_d.out.below b6)
      replace O_x := Lib.hid (O_x.out.below b6)
      replace O_y := Lib.hid (O_y.out.below b6)
      replace B := Lib.hid (B.out.next b6)
      have L_o := Lib.hid O_o.out.len
      clear b6
      refine .inl ⟨rfl, rfl, ?_⟩
      try dsimp only
      refine Lift.KW.callS (id := 17) (d := d14) (z := d15) (m1 := p14) (m2 := q14) (o := o14) (f := 15) (args := fun a => #[a.eval (.tmp 123), a.eval (.tmp 124)]) (by kernel_rfl) (by kernel_rfl) (by kernel_rfl) (fun ys => by kernel_rfl) (fun tm w => by kernel_rfl) fun τ => ?_
      simp only [p14, q14, o14, Lift.opsS, d14, Lift.dropS, bL, Try.f4, Option.getD_some, List.take_succ_cons, List.take_zero, List.drop_succ_cons, List.drop_zero, List.getD_cons_succ, List.getD_cons_zero, List.cons_append, List.nil_append]
      obtain ⟨W27, hV⟩ : ∃ V, Lift.re w6 τ 0 = V := ⟨_, rfl⟩
      rw [hV]
      replace B := Lib.hid (B.out.at hV)
      have Z_W27 : w6.heap.size ≤ W27.heap.size := by rw [← hV]; exact Nat.le_refl _
      replace O_v := Lib.hid (Lift.own_at O_v.out hV)
      replace O_u := Lib.hid (Lift.own_at O_u.out hV)
      replace O_d := Lib.hid (Lift.own_at O_d.out hV)
      replace O_x := Lib.hid (Lift.own_at O_x.out hV)
      replace O_y := Lib.hid (Lift.own_at O_y.out hV)
      replace O_o := Lib.hid (Lift.own_at O_o.out hV)
      clear hV
      go_wp2
      try refine ⟨rfl, rfl, ?_⟩
      refine (Lift.make_k f5 rfl B.out.size O_v.out.sl O_o.out.sl O_v.out.le O_o.out.le).mono ?_
      rintro r W28 ⟨m_z, a_z, n_z, c_z, a_t, n_t, c_t, rfl, M_z, M_t, o_z, o_t, b_k⟩ τ
      have Z_W28 : W27.heap.size ≤ W28.heap.size := b_k.size
      have O_z := Lib.hid o_z
      have L_z := Lib.hid o_z.len
      have O_t := Lib.hid o_t
      have L_t := Lib.hid o_t.len
      replace O_v := Lib.hid (Lift.own_blw O_v.out b_k)
      replace O_u := Lib.hid (Lift.own_blw O_u.out b_k)
      replace O_d := Lib.hid (Lift.own_blw O_d.out b_k)
      replace O_x := Lib.hid (Lift.own_blw O_x.out b_k)
      replace O_y := Lib.hid (Lift.own_blw O_y.out b_k)
      replace O_o := Lib.hid (Lift.own_blw O_o.out b_k)
      replace B := Lib.hid (B.out.trans (b_k.mono B.out.size))
      clear b_k o_z o_t
      obtain ⟨W29, hV⟩ : ∃ V, Lift.re W28 τ 0 = V := ⟨_, rfl⟩
      rw [hV]
      replace B := Lib.hid (B.out.at hV)
      have Z_W29 : W28.heap.size ≤ W29.heap.size := by rw [← hV]; exact Nat.le_refl _
      replace O_v := Lib.hid (Lift.own_at O_v.out hV)
      replace O_u := Lib.hid (Lift.own_at O_u.out hV)
      replace O_d := Lib.hid (Lift.own_at O_d.out hV)
      replace O_x := Lib.hid (Lift.own_at O_x.out hV)
      replace O_y := Lib.hid (Lift.own_at O_y.out hV)
      replace O_o := Lib.hid (Lift.own_at O_o.out hV)
      replace O_z := Lib.hid (Lift.own_at O_z.out hV)
      replace O_t := Lib.hid (Lift.own_at O_t.out hV)
      clear hV
      go_wp2
      try refine ⟨rfl, rfl, ?_⟩
      try dsimp only
      have h_z : n_z ≤ 20 := by rw [← L_z.out, Lift.sub_size f5, L_v.out]; omega
      refine Lift.KW.last (d := d15) rL (by kernel_rfl) fun τ => ?_
      simp only [d15, Lift.dropS, bL, Try.f4, Option.getD_some]
      obtain ⟨W30, hV⟩ : ∃ V, Lift.re W29 τ 0 = V := ⟨_, rfl⟩
      rw [hV]
      replace B := Lib.hid (B.out.at hV)
      have Z_W30 : W29.heap.size ≤ W30.heap.size := by rw [← hV]; exact Nat.le_refl _
      replace O_v := Lib.hid (Lift.own_at O_v.out hV)
      replace O_u := Lib.hid (Lift.own_at O_u.out hV)
      replace O_d := Lib.hid (Lift.own_at O_d.out hV)
      replace O_x := Lib.hid (Lift.own_at O_x.out hV)
      replace O_y := Lib.hid (Lift.own_at O_y.out hV)
      replace O_o := Lib.hid (Lift.own_at O_o.out hV)
      replace O_z := Lib.hid (Lift.own_at O_z.out hV)
      replace O_t := Lib.hid (Lift.own_at O_t.out hV)
      clear hV
      go_wp2_with fail
      refine (laws_loInts _ _ _ _ _ _ _ _ _ O_x.out.sl O_u.out.sl (by omega) (by omega)).mono ?_
      rintro e W31 hd
      obtain ⟨rfl, b_d⟩ := hd.below
      have Z_W31 : W30.heap.size ≤ W31.heap.size := b_d.size
      clear hd
      replace O_v := Lib.hid (O_v.out.below b_d)
      replace O_u := Lib.hid (O_u.out.below b_d)
      replace O_d := Lib.hid (O_d.out.below b_d)
      replace O_x := Lib.hid (O_x.out.below b_d)
      replace O_y := Lib.hid (O_y.out.below b_d)
      replace O_o := Lib.hid (O_o.out.below b_d)
      replace O_z := Lib.hid (O_z.out.below b_d)
      replace O_t := Lib.hid (O_t.out.below b_d)
      replace B := Lib.hid (B.out.next b_d)
      clear b_d
      go_wp2_with fail
      refine (laws_loInts _ _ _ _ _ _ _ _ _ O_y.out.sl O_u.out.sl (by omega) (by omega)).mono ?_
      rintro e W32 hd
      obtain ⟨rfl, b_d⟩ := hd.below
      have Z_W32 : W31.heap.size ≤ W32.heap.size := b_d.size
      clear hd
      replace O_v := Lib.hid (O_v.out.below b_d)
      replace O_u := Lib.hid (O_u.out.below b_d)
      replace O_d := Lib.hid (O_d.out.below b_d)
      replace O_x := Lib.hid (O_x.out.below b_d)
      replace O_y := Lib.hid (O_y.out.below b_d)
      replace O_o := Lib.hid (O_o.out.below b_d)
      replace O_z := Lib.hid (O_z.out.below b_d)
      replace O_t := Lib.hid (O_t.out.below b_d)
      replace B := Lib.hid (B.out.next b_d)
      clear b_d
      go_wp2_with fail
      refine (laws_loInts _ _ _ _ _ _ _ _ _ O_z.out.sl O_u.out.sl (by omega) (by omega)).mono ?_
      rintro e W33 hd
      obtain ⟨rfl, b_d⟩ := hd.below
      have Z_W33 : W32.heap.size ≤ W33.heap.size := b_d.size
      clear hd
      replace O_v := Lib.hid (O_v.out.below b_d)
      replace O_u := Lib.hid (O_u.out.below b_d)
      replace O_d := Lib.hid (O_d.out.below b_d)
      replace O_x := Lib.hid (O_x.out.below b_d)
      replace O_y := Lib.hid (O_y.out.below b_d)
      replace O_o := Lib.hid (O_o.out.below b_d)
      replace O_z := Lib.hid (O_z.out.below b_d)
      replace O_t := Lib.hid (O_t.out.below b_d)
      replace B := Lib.hid (B.out.next b_d)
      clear b_d
      go_wp2
      exact .inr ⟨rfl, rfl, .inr rfl, rfl, _, _, Try.func4, by kernel_rfl, rfl, B.out⟩

/-! ### THE ROW's STEP: WRITTEN OUT: LEAVE IT -/
set_option maxRecDepth 100000 in
theorem lifted (os : Os) (started : os.Started) (H : Type) (enc : TypeId × Value → H) :
    ReturnsInLeavingWide {} Try.checked os 4 .any (Rows.fnShareHideSpec.pre6 enc Try.prog Try.f4 Rows.fnShareHideRow.domain false) (Rows.fnShareHideSpec.post enc Try.prog Try.f4 false true false false) := by
  refine returnsInLeavingWide_of_change_sized (C := Try.checked) own started Try.func4
    (ChangeSpec.witness6 (enc := enc) (C := Try.checked) false ⟨#[], #[.slice none 0 0, .slice none 0 0], []⟩ 8 (by kernel_rfl) (by kernel_rfl) (by kernel_rfl) (by kernel_rfl)) ?_
  intro W base args ds gs before hval0 hW hcnd _ _
  have hval : ∀ (j : Nat) t v, Try.f4.params[j]? = some t → args[j]? = some v → Value.okWide Try.prog W .any base t v := hval0
  have hW' := hW
  obtain ⟨p, q, hA0, hV, rfl, hfz, hnd⟩ := hW
  have hA : DataW.TrodAll enc Try.prog W 0 (fun _ => true) true Try.f4.params.toList args.toList ds p := hA0
  rw [Try.params4] at hA hval
  obtain ⟨v0, vs0, d0, ds0, p0, q0, hargs, rfl, rfl, h0, r0⟩ := trodAll_cons hA
  obtain ⟨v1, vs1, d1, ds1, p1, q1, rfl, rfl, rfl, h1, r1⟩ := trodAll_cons r0
  obtain ⟨rfl, rfl, rfl⟩ := trodAll_nil r1
  obtain rfl : args = #[v0, v1] := by cases args; simp_all
  obtain ⟨rfl, rfl⟩ := trodVars_none hV
  obtain ⟨a0, len0, cap0, rfl⟩ := okWide_slice Try.underlying22 (hval 0 22 v0 rfl rfl)
  have k0 := h0
  have lt0 : ∀ x ∈ p0, x.block < W.heap.size := by obtain ⟨m, hm⟩ := k0; exact DataW.trod_lt m _ _ _ hm
  obtain ⟨z0, w0⟩ : ∃ zs, IsRow .u8 W a0 len0 cap0 zs := by
    obtain ⟨fuel, hf⟩ := h0
    rcases open_ints Try.underlying22 Try.underlying5 (by kernel_rfl) hf with ⟨hcs, _⟩ | ⟨x, l, c, zs, hcs, _, hl, hm, hz, _, hcell, hwz⟩
    · simp [Value.cells] at hcs
      obtain ⟨rfl, rfl, rfl⟩ := hcs
      exact ⟨[], .inl ⟨rfl, rfl, rfl, rfl⟩⟩
    · simp [Value.cells] at hcs
      obtain ⟨rfl, rfl, rfl⟩ := hcs
      exact ⟨zs, .inr ⟨_, rfl, hl, hm, by simpa using hz, hcell, hwz⟩⟩
  obtain ⟨a1, len1, cap1, rfl⟩ := okWide_slice Try.underlying22 (hval 1 22 v1 rfl rfl)
  have k1 := h1
  have lt1 : ∀ x ∈ p1, x.block < W.heap.size := by obtain ⟨m, hm⟩ := k1; exact DataW.trod_lt m _ _ _ hm
  obtain ⟨z1, w1⟩ : ∃ zs, IsRow .u8 W a1 len1 cap1 zs := by
    obtain ⟨fuel, hf⟩ := h1
    rcases open_ints Try.underlying22 Try.underlying5 (by kernel_rfl) hf with ⟨hcs, _⟩ | ⟨x, l, c, zs, hcs, _, hl, hm, hz, _, hcell, hwz⟩
    · simp [Value.cells] at hcs
      obtain ⟨rfl, rfl, rfl⟩ := hcs
      exact ⟨[], .inl ⟨rfl, rfl, rfl, rfl⟩⟩
    · simp [Value.cells] at hcs
      obtain ⟨rfl, rfl, rfl⟩ := hcs
      exact ⟨zs, .inr ⟨_, rfl, hl, hm, by simpa using hz, hcell, hwz⟩⟩
  clear hA0 hval0
  obtain ⟨M, last, o, w', t', g1, g2, g3, g4⟩ := Lift.K.done (walk a0 len0 cap0 z0 a1 len1 cap1 z1 W w0 w1)
  refine ⟨M, last, o, w', t', g1, g2, g3, g4.mono fun v hp => ?_⟩
  obtain ⟨rfl, bel0⟩ := hp
  have bel := bel0.below
  exact ⟨_, _, _, [], _, [], hW', trodAll_mk1 (shut_bool Try.underlying4 _), DataW.TrodAll.of_heap (w := Lift.re w' W.tape w'.drawn) (w' := w') rfl (trodAll_cons_mk (Below.trod laidOut (by kernel_rfl) (of_decide_eq_true (by kernel_rfl)) k0 bel lt0) (trodAll_cons_mk (Below.trod laidOut (by kernel_rfl) (of_decide_eq_true (by kernel_rfl)) k1 bel lt1) trodAll_mk0)), rfl, bel0.frame _, fun h => by cases h⟩

theorem over : Rows.fnShareHideRow.holds Try.pinned (OpenSpec.ofChange Rows.fnShareHideSpec) :=
  OpenClaim.holds_of_wide_leaving 4 Try.f4 rfl rfl rfl rfl rfl rfl rfl ⟨rfl, rfl, rfl, rfl, rfl⟩ rfl rfl rfl rfl rfl (by kernel_rfl) Try.func4 (by kernel_rfl)
    (of_decide_eq_true (by kernel_rfl)) (by unfold Func.isWrapper; first | (rw [if_pos (by decide +kernel)]; kernel_rfl) | (rw [if_neg (by decide +kernel)]; exact ⟨rfl, rfl⟩))
    (fun os started H enc _ => lifted os started H enc)

/-- ████ THE STATEMENT ████ -/
theorem proved : Rows.FnShareHideSaid := over
#print axioms proved
end Go.Proofs.Ytadngncbbbbapaa.fnShareHide
