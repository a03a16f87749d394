/-
  Both shares of drawn numbers are the numbers again, and the second is what was drawn: the law FnShareBack returns true for every code.
  Conditions: none but the statement's own. Proved: Rows.FnShareBackSaid.
-/
import Derived.Test.YtadngncbbbbapaaRows
import Derived.WalkKit
import Derived.ProofKit
import Derived.OpenShut
import Derived.ShutString
import Derived.ChangeOld
import Derived.Below
import Derived.Test.YtadngncbbbbapaaFp
import Derived.Test.YtadngncbbbbapaaBase
import Derived.Test.YtadngncbbbbapaaSl
import Derived.Test.YtadngncbbbbapaaLw
import Derived.Test.YtadngncbbbbapaaKlaw
import Derived.Test.YtadngncbbbbapaaShk
import Derived.Test.YtadngncbbbbapaaShs
import Derived.Test.YtadngncbbbbapaaShm
import Derived.Test.YtadngncbbbbapaaShp
import Derived.Test.YtadngncbbbbapaaDraw
import Derived.Test.YtadngncbbbbapaaDlist
import Derived.Test.YtadngncbbbbapaaDtwo
import Derived.Test.YtadngncbbbbapaaKay
import Derived.Conc.Holds
import Derived.Leaving
import Derived.Conc.LeavingOf
import Derived.ChangeFn
namespace Go.Proofs.Ytadngncbbbbapaa.fnShareBack
open Go.ChangeShapes Go.WideShapes Go.ChangeAt Go.RowKit
open Go.ChangeMaps (open_string shut_string)
set_option linter.unusedVariables false
set_option linter.unusedSimpArgs false

theorem own : ownKnob Try.prog.godebug = none := by kernel_rfl
theorem laidOut : laidOutB Try.prog = true := by kernel_rfl

noncomputable def bL : Code := Try.f3.body.getD .skip
theorem hL : Try.f3.body = some bL := by kernel_rfl
theorem rL : Lift.ResOk Try.prog 3 := ⟨_, Try.func3, fun tmps => ⟨_, by simp [results, Try.f3]; rfl⟩⟩
noncomputable def d0 : Code := bL
noncomputable def y0_2 : Code := Lift.takeS 1 d0
noncomputable def d2 : Code := Lift.dropS 1 bL
noncomputable def y0_4 : Code := Lift.takeS 3 d0
noncomputable def d4 : Code := Lift.dropS 3 bL
noncomputable def d5 : Code := Lift.dropS 4 bL
noncomputable def p4 : List Oper := (Lift.opsS d4).take 2
noncomputable def o4 : Oper := (Lift.opsS d4).getD 2 default
noncomputable def q4 : List Oper := (Lift.opsS d4).drop 3
noncomputable def y5_1 : Code := Lift.takeS 0 d5
noncomputable def d6 : Code := Lift.dropS 5 bL
noncomputable def d7 : Code := Lift.dropS 6 bL
noncomputable def p6 : List Oper := (Lift.opsS d6).take 2
noncomputable def o6 : Oper := (Lift.opsS d6).getD 2 default
noncomputable def q6 : List Oper := (Lift.opsS d6).drop 3
set_option maxHeartbeats 1000000 in
set_option maxRecDepth 100000 in
theorem walk (a0 : Option Addr) (len0 cap0 : Nat) (z0 : List Int) (w : World) (w0 : IsRow .u8 w a0 len0 cap0 z0) :
    Lift.K Try.prog w.heap.size (Go.Conc.G (Frame.enter Try.prog 3 #[.slice a0 len0 cap0] .normal) []) w (Lift.AtRet Try.prog w.heap.size fun x w' => x = .bool true ∧ Lift.Blw w.heap.size w w') := by
  obtain ⟨c1, c2⟩ := w0.sizes
  have Hb := Lib.hid (Bys.of_row w0)
  clear w0
  refine Lift.KW.law Try.func3 hL (by kernel_rfl) ?_
  simp only [Try.ntmps3, List.size_toArray, List.length_cons, List.length_nil, Nat.reduceAdd, Nat.reduceSub, Array.replicate_succ, Array.replicate_zero, List.push_toArray, List.append_toArray, List.nil_append, List.cons_append]
  rw [show bL = d0 from rfl]
  have B := Lib.hid (Lift.Blw.refl w.heap.size w)
  by_cases hl : 1048576 < len0
  · skip
    refine Lift.KW.stmts 1 (d := d0) (y := y0_2) (z := d2) rL (by kernel_rfl) (by kernel_rfl) (by kernel_rfl) fun τ => ?_
    simp only [y0_2, Lift.takeS, d0, Lift.dropS, bL, Try.f3, Option.getD_some]
    obtain ⟨W1, hV⟩ : ∃ V, Lift.re w τ 0 = V := ⟨_, rfl⟩
    rw [hV]
    replace B := Lib.hid (B.out.at hV)
    have Z_W1 : w.heap.size ≤ W1.heap.size := by rw [← hV]; exact Nat.le_refl _
    clear hV
    go_wp2
    exact .inr ⟨rfl, rfl, .inr rfl, rfl, _, _, Try.func3, by kernel_rfl, rfl, B.out⟩
  refine Lift.KW.stmts 3 (d := d0) (y := y0_4) (z := d4) rL (by kernel_rfl) (by kernel_rfl) (by kernel_rfl) fun τ => ?_
  simp only [y0_4, Lift.takeS, d0, Lift.dropS, bL, Try.f3, Option.getD_some]
  obtain ⟨W2, hV⟩ : ∃ V, Lift.re w τ 0 = V := ⟨_, rfl⟩
  rw [hV]
  replace B := Lib.hid (B.out.at hV)
  have Z_W2 : w.heap.size ≤ W2.heap.size := by rw [← hV]; exact Nat.le_refl _
  replace Hb := Lib.hid (Lift.bys_at Hb.out hV)
  clear hV
  go_wp2_with fail
  refine (spec_DrawShareMake a0 len0 cap0 _ Hb.out c1 c2).mono ?_
  rintro e W3 ⟨a_v, n_v, c_v, a_d, n_d, c_d, vs, ds, h_v, h_d, rfl, o_v, o_d, b_d⟩
  have Z_W3 : W2.heap.size ≤ W3.heap.size := b_d.size
  have O_v := Lib.hid o_v
  have L_v := Lib.hid o_v.len
  have O_d := Lib.hid o_d
  have L_d := Lib.hid o_d.len
  replace B := Lib.hid (B.out.next b_d)
  clear b_d o_v o_d
  clear c1 c2 Hb
  have e1 := eqB_self (Lift.sub vs ds)
  have e2 := eqB_self (Lift.kept vs ds)
  have pl := Lib.hid (Lift.comb_len (g := fun x y => (x - y) % 31) (xs := vs) (ys := ds))
  have kl := Lib.hid (Lift.kept_len (xs := vs) (ys := ds))
  go_wp2_with fail
  refine (spec_ShareMake _ _ _ _ _ _ _ _ _ O_v.out.sl O_d.out.sl (by omega) (by omega)).mono ?_
  rintro e W4 ⟨m_p, a_p, n_p, c_p, a_q, n_q, c_q, rfl, M_p, M_q, o_p, o_q, b_d⟩
  have Z_W4 : W3.heap.size ≤ W4.heap.size := b_d.size
  have O_p := Lib.hid o_p
  have L_p := Lib.hid o_p.len
  have O_q := Lib.hid o_q
  have L_q := Lib.hid o_q.len
  replace O_v := Lib.hid (O_v.out.below b_d)
  replace O_d := Lib.hid (O_d.out.below b_d)
  replace B := Lib.hid (B.out.next b_d)
  clear b_d o_p o_q
  have h_p : n_p ≤ 20 := by rw [← L_p.out]; exact pl.out
  have h_q : n_q ≤ 20 := by rw [← L_q.out]; exact kl.out
  go_wp2
  refine .inl ⟨rfl, rfl, ?_⟩
  try dsimp only
  refine Lift.KW.callS (id := 5) (d := d4) (z := d5) (m1 := p4) (m2 := q4) (o := o4) (f := 15) (args := fun a => #[a.eval (.tmp 29), a.eval (.tmp 30)]) (by kernel_rfl) (by kernel_rfl) (by kernel_rfl) (fun ys => by kernel_rfl) (fun tm w => by kernel_rfl) fun τ => ?_
  simp only [p4, q4, o4, Lift.opsS, d4, Lift.dropS, bL, Try.f3, Option.getD_some, List.take_succ_cons, List.take_zero, List.drop_succ_cons, List.drop_zero, List.getD_cons_succ, List.getD_cons_zero, List.cons_append, List.nil_append]
  obtain ⟨W5, hV⟩ : ∃ V, Lift.re W4 τ 0 = V := ⟨_, rfl⟩
  rw [hV]
  replace B := Lib.hid (B.out.at hV)
  have Z_W5 : W4.heap.size ≤ W5.heap.size := by rw [← hV]; exact Nat.le_refl _
  replace O_v := Lib.hid (Lift.own_at O_v.out hV)
  replace O_d := Lib.hid (Lift.own_at O_d.out hV)
  replace O_p := Lib.hid (Lift.own_at O_p.out hV)
  replace O_q := Lib.hid (Lift.own_at O_q.out hV)
  clear hV
  go_wp2
  try refine ⟨rfl, rfl, ?_⟩
  refine (Lift.ShareMake_k B.out.size O_v.out.sl O_d.out.sl O_v.out.le O_d.out.le).mono ?_
  rintro r W6 ⟨m_a, a_a, n_a, c_a, a_b, n_b, c_b, rfl, M_a, M_b, o_a, o_b, b_k⟩ τ
  have Z_W6 : W5.heap.size ≤ W6.heap.size := b_k.size
  have O_a := Lib.hid o_a
  have L_a := Lib.hid o_a.len
  have O_b := Lib.hid o_b
  have L_b := Lib.hid o_b.len
  replace O_v := Lib.hid (Lift.own_blw O_v.out b_k)
  replace O_d := Lib.hid (Lift.own_blw O_d.out b_k)
  replace O_p := Lib.hid (Lift.own_blw O_p.out b_k)
  replace O_q := Lib.hid (Lift.own_blw O_q.out b_k)
  replace B := Lib.hid (B.out.trans (b_k.mono B.out.size))
  clear b_k o_a o_b
  obtain ⟨W7, hV⟩ : ∃ V, Lift.re W6 τ 0 = V := ⟨_, rfl⟩
  rw [hV]
  replace B := Lib.hid (B.out.at hV)
  have Z_W7 : W6.heap.size ≤ W7.heap.size := by rw [← hV]; exact Nat.le_refl _
  replace O_v := Lib.hid (Lift.own_at O_v.out hV)
  replace O_d := Lib.hid (Lift.own_at O_d.out hV)
  replace O_p := Lib.hid (Lift.own_at O_p.out hV)
  replace O_q := Lib.hid (Lift.own_at O_q.out hV)
  replace O_a := Lib.hid (Lift.own_at O_a.out hV)
  replace O_b := Lib.hid (Lift.own_at O_b.out hV)
  clear hV
  go_wp2
  try refine ⟨rfl, rfl, ?_⟩
  try dsimp only
  have h_a : n_a ≤ 20 := by rw [← L_a.out]; exact pl.out
  have h_b : n_b ≤ 20 := by rw [← L_b.out]; exact kl.out
  cases hf : Fp.fit vs ds
  · skip
    refine Lift.KW.stmts 0 (d := d5) (y := y5_1) (z := d6) rL (by kernel_rfl) (by kernel_rfl) (by kernel_rfl) fun τ => ?_
    simp only [y5_1, Lift.takeS, d5, Lift.dropS, bL, Try.f3, Option.getD_some]
    obtain ⟨W8, hV⟩ : ∃ V, Lift.re W7 τ 0 = V := ⟨_, rfl⟩
    rw [hV]
    replace B := Lib.hid (B.out.at hV)
    have Z_W8 : W7.heap.size ≤ W8.heap.size := by rw [← hV]; exact Nat.le_refl _
    replace O_v := Lib.hid (Lift.own_at O_v.out hV)
    replace O_d := Lib.hid (Lift.own_at O_d.out hV)
    replace O_p := Lib.hid (Lift.own_at O_p.out hV)
    replace O_q := Lib.hid (Lift.own_at O_q.out hV)
    replace O_a := Lib.hid (Lift.own_at O_a.out hV)
    replace O_b := Lib.hid (Lift.own_at O_b.out hV)
    clear hV
    go_wp2_with fail
    refine (laws_loInts _ _ _ _ _ _ _ _ _ O_a.out.sl O_p.out.sl (by omega) (by omega)).mono ?_
    rintro e W9 hd
    obtain ⟨rfl, b_d⟩ := hd.below
    have Z_W9 : W8.heap.size ≤ W9.heap.size := b_d.size
    clear hd
    replace O_v := Lib.hid (O_v.out.below b_d)
    replace O_d := Lib.hid (O_d.out.below b_d)
    replace O_p := Lib.hid (O_p.out.below b_d)
    replace O_q := Lib.hid (O_q.out.below b_d)
    replace O_a := Lib.hid (O_a.out.below b_d)
    replace O_b := Lib.hid (O_b.out.below b_d)
    replace B := Lib.hid (B.out.next b_d)
    clear b_d
    go_wp2_with fail
    refine (laws_loInts _ _ _ _ _ _ _ _ _ O_b.out.sl O_q.out.sl (by omega) (by omega)).mono ?_
    rintro e W10 hd
    obtain ⟨rfl, b_d⟩ := hd.below
    have Z_W10 : W9.heap.size ≤ W10.heap.size := b_d.size
    clear hd
    replace O_v := Lib.hid (O_v.out.below b_d)
    replace O_d := Lib.hid (O_d.out.below b_d)
    replace O_p := Lib.hid (O_p.out.below b_d)
    replace O_q := Lib.hid (O_q.out.below b_d)
    replace O_a := Lib.hid (O_a.out.below b_d)
    replace O_b := Lib.hid (O_b.out.below b_d)
    replace B := Lib.hid (B.out.next b_d)
    clear b_d
    go_wp2_with fail
    refine (laws_loInts _ _ _ _ _ _ _ _ _ O_a.out.sl O_p.out.sl (by omega) (by omega)).mono ?_
    rintro e W11 hd
    obtain ⟨rfl, b_d⟩ := hd.below
    have Z_W11 : W10.heap.size ≤ W11.heap.size := b_d.size
    clear hd
    replace O_v := Lib.hid (O_v.out.below b_d)
    replace O_d := Lib.hid (O_d.out.below b_d)
    replace O_p := Lib.hid (O_p.out.below b_d)
    replace O_q := Lib.hid (O_q.out.below b_d)
    replace O_a := Lib.hid (O_a.out.below b_d)
    replace O_b := Lib.hid (O_b.out.below b_d)
    replace B := Lib.hid (B.out.next b_d)
    clear b_d
    go_wp2_with fail
    refine (laws_loInts _ _ _ _ _ _ _ _ _ O_b.out.sl O_q.out.sl (by omega) (by omega)).mono ?_
    rintro e W12 hd
    obtain ⟨rfl, b_d⟩ := hd.below
    have Z_W12 : W11.heap.size ≤ W12.heap.size := b_d.size
    clear hd
    replace O_v := Lib.hid (O_v.out.below b_d)
    replace O_d := Lib.hid (O_d.out.below b_d)
    replace O_p := Lib.hid (O_p.out.below b_d)
    replace O_q := Lib.hid (O_q.out.below b_d)
    replace O_a := Lib.hid (O_a.out.below b_d)
    replace O_b := Lib.hid (O_b.out.below b_d)
    replace B := Lib.hid (B.out.next b_d)
    clear b_d
    go_wp2
    exact .inr ⟨rfl, rfl, .inr rfl, rfl, _, _, Try.func3, by kernel_rfl, rfl, B.out⟩
  · skip
    obtain ⟨f1, f2⟩ := Lift.add_sub hf
    have E2 := Lib.hid (Lift.kept_yes hf)
    refine Lift.KW.stmts 0 (d := d5) (y := y5_1) (z := d6) rL (by kernel_rfl) (by kernel_rfl) (by kernel_rfl) fun τ => ?_
    simp only [y5_1, Lift.takeS, d5, Lift.dropS, bL, Try.f3, Option.getD_some]
    obtain ⟨W13, hV⟩ : ∃ V, Lift.re W7 τ 0 = V := ⟨_, rfl⟩
    rw [hV]
    replace B := Lib.hid (B.out.at hV)
    have Z_W13 : W7.heap.size ≤ W13.heap.size := by rw [← hV]; exact Nat.le_refl _
    replace O_v := Lib.hid (Lift.own_at O_v.out hV)
    replace O_d := Lib.hid (Lift.own_at O_d.out hV)
    replace O_p := Lib.hid (Lift.own_at O_p.out hV)
    replace O_q := Lib.hid (Lift.own_at O_q.out hV)
    replace O_a := Lib.hid (Lift.own_at O_a.out hV)
    replace O_b := Lib.hid (Lift.own_at O_b.out hV)
    clear hV
    go_wp2_with fail
    refine (laws_loInts _ _ _ _ _ _ _ _ _ O_a.out.sl O_p.out.sl (by omega) (by omega)).mono ?_
    rintro e W14 hd
    obtain ⟨rfl, b_d⟩ := hd.below
    have Z_W14 : W13.heap.size ≤ W14.heap.size := b_d.size
    clear hd
    replace O_v := Lib.hid (O_v.out.below b_d)
    replace O_d := Lib.hid (O_d.out.below b_d)
    replace O_p := Lib.hid (O_p.out.below b_d)
    replace O_q := Lib.hid (O_q.out.below b_d)
    replace O_a := Lib.hid (O_a.out.below b_d)
    replace O_b := Lib.hid (O_b.out.below b_d)
    replace B := Lib.hid (B.out.next b_d)
    clear b_d
    go_wp2_with fail
    refine (laws_loInts _ _ _ _ _ _ _ _ _ O_b.out.sl O_q.out.sl (by omega) (by omega)).mono ?_
    rintro e W15 hd
    obtain ⟨rfl, b_d⟩ := hd.below
    have Z_W15 : W14.heap.size ≤ W15.heap.size := b_d.size
    clear hd
    replace O_v := Lib.hid (O_v.out.below b_d)
    replace O_d := Lib.hid (O_d.out.below b_d)
    replace O_p := Lib.hid (O_p.out.below b_d)
    replace O_q := Lib.hid (O_q.out.below b_d)
    replace O_a := Lib.hid (O_a.out.below b_d)
    replace O_b := Lib.hid (O_b.out.below b_d)
    replace B := Lib.hid (B.out.next b_d)
    clear b_d
    go_wp2
    refine .inl ⟨rfl, rfl, ?_⟩
    try dsimp only
    rw [E2.out] at O_b
    have e3 := eqB_self vs
    have e4 := eqB_self ds
    refine Lift.KW.callS (id := 8) (d := d6) (z := d7) (m1 := p6) (m2 := q6) (o := o6) (f := 17) (args := fun a => #[a.eval (.tmp 68), a.eval (.tmp 69)]) (by kernel_rfl) (by kernel_rfl) (by kernel_rfl) (fun ys => by kernel_rfl) (fun tm w => by kernel_rfl) fun τ => ?_
    simp only [p6, q6, o6, Lift.opsS, d6, Lift.dropS, bL, Try.f3, Option.getD_some, List.take_succ_cons, List.take_zero, List.drop_succ_cons, List.drop_zero, List.getD_cons_succ, List.getD_cons_zero, List.cons_append, List.nil_append]
    obtain ⟨W16, hV⟩ : ∃ V, Lift.re W15 τ 0 = V := ⟨_, rfl⟩
    rw [hV]
    replace B := Lib.hid (B.out.at hV)
    have Z_W16 : W15.heap.size ≤ W16.heap.size := by rw [← hV]; exact Nat.le_refl _
    replace O_v := Lib.hid (Lift.own_at O_v.out hV)
    replace O_d := Lib.hid (Lift.own_at O_d.out hV)
    replace O_p := Lib.hid (Lift.own_at O_p.out hV)
    replace O_q := Lib.hid (Lift.own_at O_q.out hV)
    replace O_a := Lib.hid (Lift.own_at O_a.out hV)
    replace O_b := Lib.hid (Lift.own_at O_b.out hV)
    clear hV
    go_wp2
    try refine ⟨rfl, rfl, ?_⟩
    refine (Lift.ShareBack_k B.out.size O_a.out.sl O_b.out.sl O_a.out.le O_b.out.le).mono ?_
    rintro r W17 ⟨a_x, n_x, c_x, rfl, o_x, b_k⟩ τ
    have Z_W17 : W16.heap.size ≤ W17.heap.size := b_k.size
    have O_x := Lib.hid o_x
    have L_x := Lib.hid o_x.len
    replace O_v := Lib.hid (Lift.own_blw O_v.out b_k)
    replace O_d := Lib.hid (Lift.own_blw O_d.out b_k)
    replace O_p := Lib.hid (Lift.own_blw O_p.out b_k)
    replace O_q := Lib.hid (Lift.own_blw O_q.out b_k)
    replace O_a := Lib.hid (Lift.own_blw O_a.out b_k)
    replace O_b := Lib.hid (Lift.own_blw O_b.out b_k)
    replace B := Lib.hid (B.out.trans (b_k.mono B.out.size))
    clear b_k o_x
    obtain ⟨W18, hV⟩ : ∃ V, Lift.re W17 τ 0 = V := ⟨_, rfl⟩
    rw [hV]
    replace B := Lib.hid (B.out.at hV)
    have Z_W18 : W17.heap.size ≤ W18.heap.size := by rw [← hV]; exact Nat.le_refl _
    replace O_v := Lib.hid (Lift.own_at O_v.out hV)
    replace O_d := Lib.hid (Lift.own_at O_d.out hV)
    replace O_p := Lib.hid (Lift.own_at O_p.out hV)
    replace O_q := Lib.hid (Lift.own_at O_q.out hV)
    replace O_a := Lib.hid (Lift.own_at O_a.out hV)
    replace O_b := Lib.hid (Lift.own_at O_b.out hV)
    replace O_x := Lib.hid (Lift.own_at O_x.out hV)
    clear hV
    go_wp2
    try refine ⟨rfl, rfl, ?_⟩
    try dsimp only
    have O_x : Hid (Own _ _ _ a_x n_x c_x (Lift.add (Lift.sub vs ds) ds)) := O_x
    rw [f2] at O_x
    have L_x := Lib.hid O_x.out.len
    have h_x : n_x ≤ 12 := by rw [← L_x.out, L_v.out]; exact h_v
    rw [show Fp.fit (Lift.comb (fun x y => (x - y) % 31) vs ds) ds = true from f1]
    refine Lift.KW.last (d := d7) rL (by kernel_rfl) fun τ => ?_
    simp only [d7, Lift.dropS, bL, Try.f3, Option.getD_some]
    obtain ⟨W19, hV⟩ : ∃ V, Lift.re W18 τ 0 = V := ⟨_, rfl⟩
    rw [hV]
    replace B := Lib.hid (B.out.at hV)
    have Z_W19 : W18.heap.size ≤ W19.heap.size := by rw [← hV]; exact Nat.le_refl _
    replace O_v := Lib.hid (Lift.own_at O_v.out hV)
    replace O_d := Lib.hid (Lift.own_at O_d.out hV)
    replace O_p := Lib.hid (Lift.own_at O_p.out hV)
    replace O_q := Lib.hid (Lift.own_at O_q.out hV)
    replace O_a := Lib.hid (Lift.own_at O_a.out hV)
    replace O_b := Lib.hid (Lift.own_at O_b.out hV)
    replace O_x := Lib.hid (Lift.own_at O_x.out hV)
    clear hV
    go_wp2_with fail
    refine (laws_loInts _ _ _ _ _ _ _ _ _ O_x.out.sl O_v.out.sl (by omega) (by omega)).mono ?_
    rintro e W20 hd
    obtain ⟨rfl, b_d⟩ := hd.below
    have Z_W20 : W19.heap.size ≤ W20.heap.size := b_d.size
    clear hd
    replace O_v := Lib.hid (O_v.out.below b_d)
    replace O_d := Lib.hid (O_d.out.below b_d)
    replace O_p := Lib.hid (O_p.out.below b_d)
    replace O_q := Lib.hid (O_q.out.below b_d)
    replace O_a := Lib.hid (O_a.out.below b_d)
    replace O_b := Lib.hid (O_b.out.below b_d)
    replace O_x := Lib.hid (O_x.out.below b_d)
    replace B := Lib.hid (B.out.next b_d)
    clear b_d
    go_wp2_with fail
    refine (laws_loInts _ _ _ _ _ _ _ _ _ O_b.out.sl O_d.out.sl (by omega) (by omega)).mono ?_
    rintro e W21 hd
    obtain ⟨rfl, b_d⟩ := hd.below
    have Z_W21 : W20.heap.size ≤ W21.heap.size := b_d.size
    clear hd
    replace O_v := Lib.hid (O_v.out.below b_d)
    replace O_d := Lib.hid (O_d.out.below b_d)
    replace O_p := Lib.hid (O_p.out.below b_d)
    replace O_q := Lib.hid (O_q.out.below b_d)
    replace O_a := Lib.hid (O_a.out.below b_d)
    replace O_b := Lib.hid (O_b.out.below b_d)
    replace O_x := Lib.hid (O_x.out.below b_d)
    replace B := Lib.hid (B.out.next b_d)
    clear b_d
    go_wp2
    exact .inr ⟨rfl, rfl, .inr rfl, rfl, _, _, Try.func3, by kernel_rfl, rfl, B.out⟩

/-! ### THE ROW's STEP: WRITTEN OUT: LEAVE IT -/
set_option maxRecDepth 100000 in
theorem lifted (os : Os) (started : os.Started) (H : Type) (enc : TypeId × Value → H) :
    ReturnsInLeavingWide {} Try.checked os 3 .any (Rows.fnShareBackSpec.pre6 enc Try.prog Try.f3 Rows.fnShareBackRow.domain false) (Rows.fnShareBackSpec.post enc Try.prog Try.f3 false true false false) := by
  refine returnsInLeavingWide_of_change_sized (C := Try.checked) own started Try.func3
    (ChangeSpec.witness6 (enc := enc) (C := Try.checked) false ⟨#[], #[.slice none 0 0], []⟩ 8 (by kernel_rfl) (by kernel_rfl) (by kernel_rfl) (by kernel_rfl)) ?_
  intro W base args ds gs before hval0 hW hcnd _ _
  have hval : ∀ (j : Nat) t v, Try.f3.params[j]? = some t → args[j]? = some v → Value.okWide Try.prog W .any base t v := hval0
  have hW' := hW
  obtain ⟨p, q, hA0, hV, rfl, hfz, hnd⟩ := hW
  have hA : DataW.TrodAll enc Try.prog W 0 (fun _ => true) true Try.f3.params.toList args.toList ds p := hA0
  rw [Try.params3] at hA hval
  obtain ⟨v0, vs0, d0, ds0, p0, q0, hargs, rfl, rfl, h0, r0⟩ := trodAll_cons hA
  obtain ⟨rfl, rfl, rfl⟩ := trodAll_nil r0
  obtain rfl : args = #[v0] := by cases args; simp_all
  obtain ⟨rfl, rfl⟩ := trodVars_none hV
  obtain ⟨a0, len0, cap0, rfl⟩ := okWide_slice Try.underlying22 (hval 0 22 v0 rfl rfl)
  have k0 := h0
  have lt0 : ∀ x ∈ p0, x.block < W.heap.size := by obtain ⟨m, hm⟩ := k0; exact DataW.trod_lt m _ _ _ hm
  obtain ⟨z0, w0⟩ : ∃ zs, IsRow .u8 W a0 len0 cap0 zs := by
    obtain ⟨fuel, hf⟩ := h0
    rcases open_ints Try.underlying22 Try.underlying5 (by kernel_rfl) hf with ⟨hcs, _⟩ | ⟨x, l, c, zs, hcs, _, hl, hm, hz, _, hcell, hwz⟩
    · simp [Value.cells] at hcs
      obtain ⟨rfl, rfl, rfl⟩ := hcs
      exact ⟨[], .inl ⟨rfl, rfl, rfl, rfl⟩⟩
    · simp [Value.cells] at hcs
      obtain ⟨rfl, rfl, rfl⟩ := hcs
      exact ⟨zs, .inr ⟨_, rfl, hl, hm, by simpa using hz, hcell, hwz⟩⟩
  clear hA0 hval0
  obtain ⟨M, last, o, w', t', g1, g2, g3, g4⟩ := Lift.K.done (walk a0 len0 cap0 z0 W w0)
  refine ⟨M, last, o, w', t', g1, g2, g3, g4.mono fun v hp => ?_⟩
  obtain ⟨rfl, bel0⟩ := hp
  have bel := bel0.below
  exact ⟨_, _, _, [], _, [], hW', trodAll_mk1 (shut_bool Try.underlying4 _), DataW.TrodAll.of_heap (w := Lift.re w' W.tape w'.drawn) (w' := w') rfl (trodAll_cons_mk (Below.trod laidOut (by kernel_rfl) (of_decide_eq_true (by kernel_rfl)) k0 bel lt0) trodAll_mk0), rfl, bel0.frame _, fun h => by cases h⟩

theorem over : Rows.fnShareBackRow.holds Try.pinned (OpenSpec.ofChange Rows.fnShareBackSpec) :=
  OpenClaim.holds_of_wide_leaving 3 Try.f3 rfl rfl rfl rfl rfl rfl rfl ⟨rfl, rfl, rfl, rfl, rfl⟩ rfl rfl rfl rfl rfl (by kernel_rfl) Try.func3 (by kernel_rfl)
    (of_decide_eq_true (by kernel_rfl)) (by unfold Func.isWrapper; first | (rw [if_pos (by decide +kernel)]; kernel_rfl) | (rw [if_neg (by decide +kernel)]; exact ⟨rfl, rfl⟩))
    (fun os started H enc _ => lifted os started H enc)

/-- ████ THE STATEMENT ████ -/
theorem proved : Rows.FnShareBackSaid := over
#print axioms proved
end Go.Proofs.Ytadngncbbbbapaa.fnShareBack
