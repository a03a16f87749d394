/-
  The program's ShareBack answers as the model's for every two arguments, leaves them unchanged, and its answer owns its memory: the law FnExactShareBack returns true.
  Conditions: none but the statement's own. Proved: Rows.FnExactShareBackSaid.
-/
import Derived.Test.YtadngncbbbbapaaRows
import Derived.WalkKit
import Derived.ProofKit
import Derived.OpenShut
import Derived.ShutString
import Derived.ChangeOld
import Derived.Below
import Derived.Test.YtadngncbbbbapaaFp
import Derived.Test.YtadngncbbbbapaaBase
import Derived.Test.YtadngncbbbbapaaSl
import Derived.Test.YtadngncbbbbapaaLw
import Derived.Test.YtadngncbbbbapaaKlaw
import Derived.Test.YtadngncbbbbapaaShk
import Derived.Test.YtadngncbbbbapaaShs
import Derived.Test.YtadngncbbbbapaaKay
import Derived.Conc.Holds
import Derived.Leaving
import Derived.Conc.LeavingOf
import Derived.ChangeFn
namespace Go.Proofs.Ytadngncbbbbapaa.fnExactShareBack
open Go.ChangeShapes Go.WideShapes Go.ChangeAt Go.RowKit
open Go.ChangeMaps (open_string shut_string)
set_option linter.unusedVariables false
set_option linter.unusedSimpArgs false

theorem own : ownKnob Try.prog.godebug = none := by kernel_rfl
theorem laidOut : laidOutB Try.prog = true := by kernel_rfl

noncomputable def bL : Code := Try.f10.body.getD .skip
theorem hL : Try.f10.body = some bL := by kernel_rfl
theorem rL : Lift.ResOk Try.prog 10 := ⟨_, Try.func10, fun tmps => ⟨_, by simp [results, Try.f10]; rfl⟩⟩
noncomputable def d0 : Code := bL
noncomputable def y0_2 : Code := Lift.takeS 1 d0
noncomputable def d2 : Code := Lift.dropS 1 bL
noncomputable def y0_3 : Code := Lift.takeS 2 d0
noncomputable def d3 : Code := Lift.dropS 2 bL
noncomputable def y0_6 : Code := Lift.takeS 5 d0
noncomputable def d6 : Code := Lift.dropS 5 bL
noncomputable def d7 : Code := Lift.dropS 6 bL
noncomputable def p6 : List Oper := (Lift.opsS d6).take 2
noncomputable def o6 : Oper := (Lift.opsS d6).getD 2 default
noncomputable def q6 : List Oper := (Lift.opsS d6).drop 3
noncomputable def y7_13 : Code := Lift.takeS 12 d7
noncomputable def d20 : Code := Lift.dropS 19 bL
noncomputable def d21 : Code := Lift.dropS 20 bL
noncomputable def p20 : List Oper := (Lift.opsS d20).take 4
noncomputable def o20 : Oper := (Lift.opsS d20).getD 4 default
noncomputable def q20 : List Oper := (Lift.opsS d20).drop 5
set_option maxHeartbeats 1000000 in
set_option maxRecDepth 100000 in
theorem walk (a0 : Option Addr) (len0 cap0 : Nat) (z0 : List Int) (a1 : Option Addr) (len1 cap1 : Nat) (z1 : List Int) (w : World) (w0 : IsRow .i64 w a0 len0 cap0 z0) (w1 : IsRow .i64 w a1 len1 cap1 z1) :
    Lift.K Try.prog w.heap.size (Go.Conc.G (Frame.enter Try.prog 10 #[.slice a0 len0 cap0, .slice a1 len1 cap1] .normal) []) w (Lift.AtRet Try.prog w.heap.size fun x w' => x = .bool true ∧ Lift.Blw w.heap.size w w') := by
  refine Lift.KW.law Try.func10 hL (by kernel_rfl) ?_
  simp only [Try.ntmps10, List.size_toArray, List.length_cons, List.length_nil, Nat.reduceAdd, Nat.reduceSub, Array.replicate_succ, Array.replicate_zero, List.push_toArray, List.append_toArray, List.nil_append, List.cons_append]
  rw [show bL = d0 from rfl]
  have B := Lib.hid (Lift.Blw.refl w.heap.size w)
  by_cases hl : 1048576 < len0
  · skip
    refine Lift.KW.stmts 1 (d := d0) (y := y0_2) (z := d2) rL (by kernel_rfl) (by kernel_rfl) (by kernel_rfl) fun τ => ?_
    simp only [y0_2, Lift.takeS, d0, Lift.dropS, bL, Try.f10, Option.getD_some]
    obtain ⟨W1, hV⟩ : ∃ V, Lift.re w τ 0 = V := ⟨_, rfl⟩
    rw [hV]
    replace B := Lib.hid (B.out.at hV)
    have Z_W1 : w.heap.size ≤ W1.heap.size := by rw [← hV]; exact Nat.le_refl _
    clear hV
    go_wp2
    exact .inr ⟨rfl, rfl, .inr rfl, rfl, _, _, Try.func10, by kernel_rfl, rfl, B.out⟩
  by_cases hl' : 1048576 < len1
  · skip
    refine Lift.KW.stmts 2 (d := d0) (y := y0_3) (z := d3) rL (by kernel_rfl) (by kernel_rfl) (by kernel_rfl) fun τ => ?_
    simp only [y0_3, Lift.takeS, d0, Lift.dropS, bL, Try.f10, Option.getD_some]
    obtain ⟨W2, hV⟩ : ∃ V, Lift.re w τ 0 = V := ⟨_, rfl⟩
    rw [hV]
    replace B := Lib.hid (B.out.at hV)
    have Z_W2 : w.heap.size ≤ W2.heap.size := by rw [← hV]; exact Nat.le_refl _
    clear hV
    go_wp2
    exact .inr ⟨rfl, rfl, .inr rfl, rfl, _, _, Try.func10, by kernel_rfl, rfl, B.out⟩
  have S0 := Lib.hid (Sl.of_row w0)
  have S1 := Lib.hid (Sl.of_row w1)
  have L0 := Lib.hid S0.out.len
  have L1 := Lib.hid S1.out.len
  clear w0 w1
  generalize List.take len0 z0 = xs at S0 L0
  generalize List.take len1 z1 = ys at S1 L1
  have e1 := eqB_self xs
  have e2 := eqB_self ys
  have e3 := eqB_self (Lift.comb (fun x y => (x + y) % 31) xs ys)
  have pl := Lib.hid (Lift.comb_len (g := fun x y => (x + y) % 31) (xs := xs) (ys := ys))
  refine Lift.KW.stmts 5 (d := d0) (y := y0_6) (z := d6) rL (by kernel_rfl) (by kernel_rfl) (by kernel_rfl) fun τ => ?_
  simp only [y0_6, Lift.takeS, d0, Lift.dropS, bL, Try.f10, Option.getD_some]
  obtain ⟨W3, hV⟩ : ∃ V, Lift.re w τ 0 = V := ⟨_, rfl⟩
  rw [hV]
  replace B := Lib.hid (B.out.at hV)
  have Z_W3 : w.heap.size ≤ W3.heap.size := by rw [← hV]; exact Nat.le_refl _
  clear hV
  go_wp2_with fail
  refine (laws_toIntS _ _ _ _ _ (S0.out.blw B.out) (by omega)).mono ?_
  rintro e W4 ⟨a_p, n_p, c_p, rfl, o_p, b_p⟩
  have O_p := Lib.hid o_p
  have L_p := Lib.hid o_p.len
  have Z_W4 : W3.heap.size ≤ W4.heap.size := b_p.size
  replace B := Lib.hid (B.out.next b_p)
  clear o_p b_p
  have h_p : n_p ≤ 1048576 := by rw [← L_p.out, L0.out]; omega
  go_wp2_with fail
  refine (laws_toIntS _ _ _ _ _ (S1.out.blw B.out) (by omega)).mono ?_
  rintro e W5 ⟨a_q, n_q, c_q, rfl, o_q, b_q⟩
  have O_q := Lib.hid o_q
  have L_q := Lib.hid o_q.len
  have Z_W5 : W4.heap.size ≤ W5.heap.size := b_q.size
  replace O_p := Lib.hid (O_p.out.below b_q)
  replace B := Lib.hid (B.out.next b_q)
  clear o_q b_q
  have h_q : n_q ≤ 1048576 := by rw [← L_q.out, L1.out]; omega
  go_wp2_with fail
  refine (spec_ShareBack _ _ _ _ _ _ _ _ _ O_p.out.sl O_q.out.sl h_p h_q).mono ?_
  rintro e W6 ⟨a_w, n_w, c_w, rfl, o_w, b_w⟩
  have O_w := Lib.hid o_w
  have L_w := Lib.hid o_w.len
  have Z_W6 : W5.heap.size ≤ W6.heap.size := b_w.size
  replace O_p := Lib.hid (O_p.out.below b_w)
  replace O_q := Lib.hid (O_q.out.below b_w)
  replace B := Lib.hid (B.out.next b_w)
  clear o_w b_w
  have h_w : n_w ≤ 20 := by rw [← L_w.out]; exact pl.out
  clear O_p O_q
  go_wp2_with fail
  refine (laws_toIntS _ _ _ _ _ (S0.out.blw B.out) (by omega)).mono ?_
  rintro e W7 ⟨a_x, n_x, c_x, rfl, o_x, b_x⟩
  have O_x := Lib.hid o_x
  have L_x := Lib.hid o_x.len
  have Z_W7 : W6.heap.size ≤ W7.heap.size := b_x.size
  replace O_w := Lib.hid (O_w.out.below b_x)
  replace B := Lib.hid (B.out.next b_x)
  clear o_x b_x
  have h_x : n_x ≤ 1048576 := by rw [← L_x.out, L0.out]; omega
  go_wp2_with fail
  refine (laws_toIntS _ _ _ _ _ (S1.out.blw B.out) (by omega)).mono ?_
  rintro e W8 ⟨a_y, n_y, c_y, rfl, o_y, b_y⟩
  have O_y := Lib.hid o_y
  have L_y := Lib.hid o_y.len
  have Z_W8 : W7.heap.size ≤ W8.heap.size := b_y.size
  replace O_w := Lib.hid (O_w.out.below b_y)
  replace O_x := Lib.hid (O_x.out.below b_y)
  replace B := Lib.hid (B.out.next b_y)
  clear o_y b_y
  have h_y : n_y ≤ 1048576 := by rw [← L_y.out, L1.out]; omega
  go_wp2
  refine .inl ⟨rfl, rfl, ?_⟩
  try dsimp only
  refine Lift.KW.callS (id := 8) (d := d6) (z := d7) (m1 := p6) (m2 := q6) (o := o6) (f := 17) (args := fun a => #[a.eval (.tmp 35), a.eval (.tmp 36)]) (by kernel_rfl) (by kernel_rfl) (by kernel_rfl) (fun ys => by kernel_rfl) (fun tm w => by kernel_rfl) fun τ => ?_
  simp only [p6, q6, o6, Lift.opsS, d6, Lift.dropS, bL, Try.f10, Option.getD_some, List.take_succ_cons, List.take_zero, List.drop_succ_cons, List.drop_zero, List.getD_cons_succ, List.getD_cons_zero, List.cons_append, List.nil_append]
  obtain ⟨W9, hV⟩ : ∃ V, Lift.re W8 τ 0 = V := ⟨_, rfl⟩
  rw [hV]
  replace B := Lib.hid (B.out.at hV)
  have Z_W9 : W8.heap.size ≤ W9.heap.size := by rw [← hV]; exact Nat.le_refl _
  replace O_w := Lib.hid (Lift.own_at O_w.out hV)
  replace O_x := Lib.hid (Lift.own_at O_x.out hV)
  replace O_y := Lib.hid (Lift.own_at O_y.out hV)
  clear hV
  go_wp2
  try refine ⟨rfl, rfl, ?_⟩
  refine (Lift.ShareBack_k B.out.size O_x.out.sl O_y.out.sl O_x.out.le O_y.out.le).mono ?_
  rintro r W10 ⟨a_g, n_g, c_g, rfl, o_g, b_k⟩ τ
  have Z_W10 : W9.heap.size ≤ W10.heap.size := b_k.size
  have O_g := Lib.hid o_g
  have L_g := Lib.hid o_g.len
  replace O_w := Lib.hid (Lift.own_blw O_w.out b_k)
  replace O_x := Lib.hid (Lift.own_blw O_x.out b_k)
  replace O_y := Lib.hid (Lift.own_blw O_y.out b_k)
  replace B := Lib.hid (B.out.trans (b_k.mono B.out.size))
  clear b_k o_g
  obtain ⟨W11, hV⟩ : ∃ V, Lift.re W10 τ 0 = V := ⟨_, rfl⟩
  rw [hV]
  replace B := Lib.hid (B.out.at hV)
  have Z_W11 : W10.heap.size ≤ W11.heap.size := by rw [← hV]; exact Nat.le_refl _
  replace O_w := Lib.hid (Lift.own_at O_w.out hV)
  replace O_x := Lib.hid (Lift.own_at O_x.out hV)
  replace O_y := Lib.hid (Lift.own_at O_y.out hV)
  replace O_g := Lib.hid (Lift.own_at O_g.out hV)
  clear hV
  go_wp2
  try refine ⟨rfl, rfl, ?_⟩
  try dsimp only
  have h_g : n_g ≤ 20 := by rw [← L_g.out]; exact pl.out
  refine Lift.KW.stmts 12 (d := d7) (y := y7_13) (z := d20) rL (by kernel_rfl) (by kernel_rfl) (by kernel_rfl) fun τ => ?_
  simp only [y7_13, Lift.takeS, d7, Lift.dropS, bL, Try.f10, Option.getD_some]
  obtain ⟨W12, hV⟩ : ∃ V, Lift.re W11 τ 0 = V := ⟨_, rfl⟩
  rw [hV]
  replace B := Lib.hid (B.out.at hV)
  have Z_W12 : W11.heap.size ≤ W12.heap.size := by rw [← hV]; exact Nat.le_refl _
  replace O_w := Lib.hid (Lift.own_at O_w.out hV)
  replace O_x := Lib.hid (Lift.own_at O_x.out hV)
  replace O_y := Lib.hid (Lift.own_at O_y.out hV)
  replace O_g := Lib.hid (Lift.own_at O_g.out hV)
  clear hV
  go_wp2_with fail
  refine (laws_eqIntS _ _ _ _ _ _ _ _ _ O_g.out.sl O_w.out.sl (by omega) (by omega)).mono ?_
  rintro e W13 hd
  obtain ⟨rfl, b_d⟩ := hd.below
  have Z_W13 : W12.heap.size ≤ W13.heap.size := b_d.size
  clear hd
  replace O_w := Lib.hid (O_w.out.below b_d)
  replace O_x := Lib.hid (O_x.out.below b_d)
  replace O_y := Lib.hid (O_y.out.below b_d)
  replace O_g := Lib.hid (O_g.out.below b_d)
  replace B := Lib.hid (B.out.next b_d)
  clear b_d
  go_wp2_with fail
  refine (laws_toIntS _ _ _ _ _ (S0.out.blw B.out) (by omega)).mono ?_
  rintro e W14 ⟨a_s, n_s, c_s, rfl, o_s, b_s⟩
  have O_s := Lib.hid o_s
  have L_s := Lib.hid o_s.len
  have Z_W14 : W13.heap.size ≤ W14.heap.size := b_s.size
  replace O_w := Lib.hid (O_w.out.below b_s)
  replace O_x := Lib.hid (O_x.out.below b_s)
  replace O_y := Lib.hid (O_y.out.below b_s)
  replace O_g := Lib.hid (O_g.out.below b_s)
  replace B := Lib.hid (B.out.next b_s)
  clear o_s b_s
  have h_s : n_s ≤ 1048576 := by rw [← L_s.out, L0.out]; omega
  go_wp2_with fail
  refine (laws_eqIntS _ _ _ _ _ _ _ _ _ O_x.out.sl O_s.out.sl (by omega) (by omega)).mono ?_
  rintro e W15 hd
  obtain ⟨rfl, b_d⟩ := hd.below
  have Z_W15 : W14.heap.size ≤ W15.heap.size := b_d.size
  clear hd
  replace O_w := Lib.hid (O_w.out.below b_d)
  replace O_x := Lib.hid (O_x.out.below b_d)
  replace O_y := Lib.hid (O_y.out.below b_d)
  replace O_g := Lib.hid (O_g.out.below b_d)
  replace O_s := Lib.hid (O_s.out.below b_d)
  replace B := Lib.hid (B.out.next b_d)
  clear b_d
  go_wp2_with fail
  refine (laws_toIntS _ _ _ _ _ (S1.out.blw B.out) (by omega)).mono ?_
  rintro e W16 ⟨a_t, n_t, c_t, rfl, o_t, b_t⟩
  have O_t := Lib.hid o_t
  have L_t := Lib.hid o_t.len
  have Z_W16 : W15.heap.size ≤ W16.heap.size := b_t.size
  replace O_w := Lib.hid (O_w.out.below b_t)
  replace O_x := Lib.hid (O_x.out.below b_t)
  replace O_y := Lib.hid (O_y.out.below b_t)
  replace O_g := Lib.hid (O_g.out.below b_t)
  replace O_s := Lib.hid (O_s.out.below b_t)
  replace B := Lib.hid (B.out.next b_t)
  clear o_t b_t
  have h_t : n_t ≤ 1048576 := by rw [← L_t.out, L1.out]; omega
  go_wp2_with fail
  refine (laws_eqIntS _ _ _ _ _ _ _ _ _ O_y.out.sl O_t.out.sl (by omega) (by omega)).mono ?_
  rintro e W17 hd
  obtain ⟨rfl, b_d⟩ := hd.below
  have Z_W17 : W16.heap.size ≤ W17.heap.size := b_d.size
  clear hd
  replace O_w := Lib.hid (O_w.out.below b_d)
  replace O_x := Lib.hid (O_x.out.below b_d)
  replace O_y := Lib.hid (O_y.out.below b_d)
  replace O_g := Lib.hid (O_g.out.below b_d)
  replace O_s := Lib.hid (O_s.out.below b_d)
  replace O_t := Lib.hid (O_t.out.below b_d)
  replace B := Lib.hid (B.out.next b_d)
  clear b_d
  clear O_s O_t
  go_wp2_with fail
  refine (laws_markIntS _ _ _ _ _ _ _ _ O_x.out (by omega) (by omega) (by omega)).mono ?_
  rintro e W18 ⟨rfl, o_m, ch, sz⟩
  replace O_w := Lib.hid (O_w.out.keep ch (fun b h1 h2 h3 hp => by have := hp.1; have := hp.2; omega))
  replace O_y := Lib.hid (O_y.out.keep ch (fun b h1 h2 h3 hp => by have := hp.1; have := hp.2; omega))
  replace O_g := Lib.hid (O_g.out.keep ch (fun b h1 h2 h3 hp => by have := hp.1; have := hp.2; omega))
  replace O_x := Lib.hid o_m
  have Z_W18 : W17.heap.size ≤ W18.heap.size := by omega
  replace B := Lib.hid (B.out.trans (Lift.Blw.of (ch.below B.out.size (fun k hp => by have := hp.1; omega))))
  clear o_m ch sz
  go_wp2_with fail
  refine (laws_markIntS _ _ _ _ _ _ _ _ O_y.out (by omega) (by omega) (by omega)).mono ?_
  rintro e W19 ⟨rfl, o_m, ch, sz⟩
  replace O_w := Lib.hid (O_w.out.keep ch (fun b h1 h2 h3 hp => by have := hp.1; have := hp.2; omega))
  replace O_x := Lib.hid (O_x.out.keep ch (fun b h1 h2 h3 hp => by have := hp.1; have := hp.2; omega))
  replace O_g := Lib.hid (O_g.out.keep ch (fun b h1 h2 h3 hp => by have := hp.1; have := hp.2; omega))
  replace O_y := Lib.hid o_m
  have Z_W19 : W18.heap.size ≤ W19.heap.size := by omega
  replace B := Lib.hid (B.out.trans (Lift.Blw.of (ch.below B.out.size (fun k hp => by have := hp.1; omega))))
  clear o_m ch sz
  go_wp2_with fail
  refine (laws_eqIntS _ _ _ _ _ _ _ _ _ O_g.out.sl O_w.out.sl (by omega) (by omega)).mono ?_
  rintro e W20 hd
  obtain ⟨rfl, b_d⟩ := hd.below
  have Z_W20 : W19.heap.size ≤ W20.heap.size := b_d.size
  clear hd
  replace O_w := Lib.hid (O_w.out.below b_d)
  replace O_x := Lib.hid (O_x.out.below b_d)
  replace O_y := Lib.hid (O_y.out.below b_d)
  replace O_g := Lib.hid (O_g.out.below b_d)
  replace B := Lib.hid (B.out.next b_d)
  clear b_d
  clear O_x O_y
  go_wp2_with fail
  refine (laws_markIntS _ _ _ _ _ _ _ _ O_g.out (by omega) (by omega) (by omega)).mono ?_
  rintro e W21 ⟨rfl, o_m, ch, sz⟩
  replace O_w := Lib.hid (O_w.out.keep ch (fun b h1 h2 h3 hp => by have := hp.1; have := hp.2; omega))
  replace O_g := Lib.hid o_m
  have Z_W21 : W20.heap.size ≤ W21.heap.size := by omega
  replace B := Lib.hid (B.out.trans (Lift.Blw.of (ch.below B.out.size (fun k hp => by have := hp.1; omega))))
  clear o_m ch sz
  go_wp2_with fail
  refine (laws_heldIntS _ _ _ _ _ O_g.out.sl (by omega) (by omega) (by omega)).mono ?_
  rintro e w' ⟨rfl, rfl⟩
  go_wp2
  refine .inl ⟨rfl, rfl, ?_⟩
  try dsimp only
  refine Lift.KW.callS (id := 28) (d := d20) (z := d21) (m1 := p20) (m2 := q20) (o := o20) (f := 17) (args := fun a => #[a.eval (.tmp 91), a.eval (.tmp 93)]) (by kernel_rfl) (by kernel_rfl) (by kernel_rfl) (fun ys => by kernel_rfl) (fun tm w => by kernel_rfl) fun τ => ?_
  simp only [p20, q20, o20, Lift.opsS, d20, Lift.dropS, bL, Try.f10, Option.getD_some, List.take_succ_cons, List.take_zero, List.drop_succ_cons, List.drop_zero, List.getD_cons_succ, List.getD_cons_zero, List.cons_append, List.nil_append]
  obtain ⟨W22, hV⟩ : ∃ V, Lift.re W21 τ 0 = V := ⟨_, rfl⟩
  rw [hV]
  replace B := Lib.hid (B.out.at hV)
  have Z_W22 : W21.heap.size ≤ W22.heap.size := by rw [← hV]; exact Nat.le_refl _
  replace O_w := Lib.hid (Lift.own_at O_w.out hV)
  replace O_g := Lib.hid (Lift.own_at O_g.out hV)
  clear hV
  go_wp2_with fail
  refine (laws_toIntS _ _ _ _ _ (S0.out.blw B.out) (by omega)).mono ?_
  rintro e W23 ⟨a_u, n_u, c_u, rfl, o_u, b_u⟩
  have O_u := Lib.hid o_u
  have L_u := Lib.hid o_u.len
  have Z_W23 : W22.heap.size ≤ W23.heap.size := b_u.size
  replace O_w := Lib.hid (O_w.out.below b_u)
  replace O_g := Lib.hid (O_g.out.below b_u)
  replace B := Lib.hid (B.out.next b_u)
  clear o_u b_u
  go_wp2_with fail
  refine (laws_toIntS _ _ _ _ _ (S1.out.blw B.out) (by omega)).mono ?_
  rintro e W24 ⟨a_v, n_v, c_v, rfl, o_v, b_v⟩
  have O_v := Lib.hid o_v
  have L_v := Lib.hid o_v.len
  have Z_W24 : W23.heap.size ≤ W24.heap.size := b_v.size
  replace O_w := Lib.hid (O_w.out.below b_v)
  replace O_g := Lib.hid (O_g.out.below b_v)
  replace O_u := Lib.hid (O_u.out.below b_v)
  replace B := Lib.hid (B.out.next b_v)
  clear o_v b_v
  go_wp2
  try refine ⟨rfl, rfl, ?_⟩
  refine (Lift.ShareBack_k B.out.size O_u.out.sl O_v.out.sl O_u.out.le O_v.out.le).mono ?_
  rintro r W25 ⟨a_h, n_h, c_h, rfl, o_h, b_k⟩ τ
  have Z_W25 : W24.heap.size ≤ W25.heap.size := b_k.size
  have O_h := Lib.hid o_h
  have L_h := Lib.hid o_h.len
  replace O_w := Lib.hid (Lift.own_blw O_w.out b_k)
  replace O_g := Lib.hid (Lift.own_blw O_g.out b_k)
  replace O_u := Lib.hid (Lift.own_blw O_u.out b_k)
  replace O_v := Lib.hid (Lift.own_blw O_v.out b_k)
  replace B := Lib.hid (B.out.trans (b_k.mono B.out.size))
  clear b_k o_h
  obtain ⟨W26, hV⟩ : ∃ V, Lift.re W25 τ 0 = V := ⟨_, rfl⟩
  rw [hV]
  replace B := Lib.hid (B.out.at hV)
  have Z_W26 : W25.heap.size ≤ W26.heap.size := by rw [← hV]; exact Nat.le_refl _
  replace O_w := Lib.hid (Lift.own_at O_w.out hV)
  replace O_g := Lib.hid (Lift.own_at O_g.out hV)
  replace O_u := Lib.hid (Lift.own_at O_u.out hV)
  replace O_v := Lib.hid (Lift.own_at O_v.out hV)
  replace O_h := Lib.hid (Lift.own_at O_h.out hV)
  clear hV
  go_wp2
  try refine ⟨rfl, rfl, ?_⟩
  try dsimp only
  have h_h : n_h ≤ 20 := by rw [← L_h.out]; exact pl.out
  refine Lift.KW.last (d := d21) rL (by kernel_rfl) fun τ => ?_
  simp only [d21, Lift.dropS, bL, Try.f10, Option.getD_some]
  obtain ⟨W27, hV⟩ : ∃ V, Lift.re W26 τ 0 = V := ⟨_, rfl⟩
  rw [hV]
  replace B := Lib.hid (B.out.at hV)
  have Z_W27 : W26.heap.size ≤ W27.heap.size := by rw [← hV]; exact Nat.le_refl _
  replace O_w := Lib.hid (Lift.own_at O_w.out hV)
  replace O_g := Lib.hid (Lift.own_at O_g.out hV)
  replace O_u := Lib.hid (Lift.own_at O_u.out hV)
  replace O_v := Lib.hid (Lift.own_at O_v.out hV)
  replace O_h := Lib.hid (Lift.own_at O_h.out hV)
  clear hV
  go_wp2_with fail
  refine (laws_eqIntS _ _ _ _ _ _ _ _ _ O_h.out.sl O_w.out.sl (by omega) (by omega)).mono ?_
  rintro e W28 hd
  obtain ⟨rfl, b_d⟩ := hd.below
  have Z_W28 : W27.heap.size ≤ W28.heap.size := b_d.size
  clear hd
  replace O_w := Lib.hid (O_w.out.below b_d)
  replace O_g := Lib.hid (O_g.out.below b_d)
  replace O_u := Lib.hid (O_u.out.below b_d)
  replace O_v := Lib.hid (O_v.out.below b_d)
  replace O_h := Lib.hid (O_h.out.below b_d)
  replace B := Lib.hid (B.out.next b_d)
  clear b_d
  go_wp2_with fail
  refine (laws_heldIntS _ _ _ _ _ O_g.out.sl (by omega) (by omega) (by omega)).mono ?_
  rintro e w' ⟨rfl, rfl⟩
  go_wp2
  exact .inr ⟨rfl, rfl, .inr rfl, rfl, _, _, Try.func10, by kernel_rfl, rfl, B.out⟩

/-! ### THE ROW's STEP: WRITTEN OUT: LEAVE IT -/
set_option maxRecDepth 100000 in
theorem lifted (os : Os) (started : os.Started) (H : Type) (enc : TypeId × Value → H) :
    ReturnsInLeavingWide {} Try.checked os 10 .any (Rows.fnExactShareBackSpec.pre6 enc Try.prog Try.f10 Rows.fnExactShareBackRow.domain false) (Rows.fnExactShareBackSpec.post enc Try.prog Try.f10 false true false false) := by
  refine returnsInLeavingWide_of_change_sized (C := Try.checked) own started Try.func10
    (ChangeSpec.witness6 (enc := enc) (C := Try.checked) false ⟨#[], #[.slice none 0 0, .slice none 0 0], []⟩ 8 (by kernel_rfl) (by kernel_rfl) (by kernel_rfl) (by kernel_rfl)) ?_
  intro W base args ds gs before hval0 hW hcnd _ _
  have hval : ∀ (j : Nat) t v, Try.f10.params[j]? = some t → args[j]? = some v → Value.okWide Try.prog W .any base t v := hval0
  have hW' := hW
  obtain ⟨p, q, hA0, hV, rfl, hfz, hnd⟩ := hW
  have hA : DataW.TrodAll enc Try.prog W 0 (fun _ => true) true Try.f10.params.toList args.toList ds p := hA0
  rw [Try.params10] at hA hval
  obtain ⟨v0, vs0, d0, ds0, p0, q0, hargs, rfl, rfl, h0, r0⟩ := trodAll_cons hA
  obtain ⟨v1, vs1, d1, ds1, p1, q1, rfl, rfl, rfl, h1, r1⟩ := trodAll_cons r0
  obtain ⟨rfl, rfl, rfl⟩ := trodAll_nil r1
  obtain rfl : args = #[v0, v1] := by cases args; simp_all
  obtain ⟨rfl, rfl⟩ := trodVars_none hV
  obtain ⟨a0, len0, cap0, rfl⟩ := okWide_slice Try.underlying23 (hval 0 23 v0 rfl rfl)
  have k0 := h0
  have lt0 : ∀ x ∈ p0, x.block < W.heap.size := by obtain ⟨m, hm⟩ := k0; exact DataW.trod_lt m _ _ _ hm
  obtain ⟨z0, w0⟩ : ∃ zs, IsRow .i64 W a0 len0 cap0 zs := by
    obtain ⟨fuel, hf⟩ := h0
    rcases open_ints Try.underlying23 Try.underlying3 (by kernel_rfl) hf with ⟨hcs, _⟩ | ⟨x, l, c, zs, hcs, _, hl, hm, hz, _, hcell, hwz⟩
    · simp [Value.cells] at hcs
      obtain ⟨rfl, rfl, rfl⟩ := hcs
      exact ⟨[], .inl ⟨rfl, rfl, rfl, rfl⟩⟩
    · simp [Value.cells] at hcs
      obtain ⟨rfl, rfl, rfl⟩ := hcs
      exact ⟨zs, .inr ⟨_, rfl, hl, hm, by simpa using hz, hcell, hwz⟩⟩
  obtain ⟨a1, len1, cap1, rfl⟩ := okWide_slice Try.underlying23 (hval 1 23 v1 rfl rfl)
  have k1 := h1
  have lt1 : ∀ x ∈ p1, x.block < W.heap.size := by obtain ⟨m, hm⟩ := k1; exact DataW.trod_lt m _ _ _ hm
  obtain ⟨z1, w1⟩ : ∃ zs, IsRow .i64 W a1 len1 cap1 zs := by
    obtain ⟨fuel, hf⟩ := h1
    rcases open_ints Try.underlying23 Try.underlying3 (by kernel_rfl) hf with ⟨hcs, _⟩ | ⟨x, l, c, zs, hcs, _, hl, hm, hz, _, hcell, hwz⟩
    · simp [Value.cells] at hcs
      obtain ⟨rfl, rfl, rfl⟩ := hcs
      exact ⟨[], .inl ⟨rfl, rfl, rfl, rfl⟩⟩
    · simp [Value.cells] at hcs
      obtain ⟨rfl, rfl, rfl⟩ := hcs
      exact ⟨zs, .inr ⟨_, rfl, hl, hm, by simpa using hz, hcell, hwz⟩⟩
  clear hA0 hval0
  obtain ⟨M, last, o, w', t', g1, g2, g3, g4⟩ := Lift.K.done (walk a0 len0 cap0 z0 a1 len1 cap1 z1 W w0 w1)
  refine ⟨M, last, o, w', t', g1, g2, g3, g4.mono fun v hp => ?_⟩
  obtain ⟨rfl, bel0⟩ := hp
  have bel := bel0.below
  exact ⟨_, _, _, [], _, [], hW', trodAll_mk1 (shut_bool Try.underlying4 _), DataW.TrodAll.of_heap (w := Lift.re w' W.tape w'.drawn) (w' := w') rfl (trodAll_cons_mk (Below.trod laidOut (by kernel_rfl) (of_decide_eq_true (by kernel_rfl)) k0 bel lt0) (trodAll_cons_mk (Below.trod laidOut (by kernel_rfl) (of_decide_eq_true (by kernel_rfl)) k1 bel lt1) trodAll_mk0)), rfl, bel0.frame _, fun h => by cases h⟩

theorem over : Rows.fnExactShareBackRow.holds Try.pinned (OpenSpec.ofChange Rows.fnExactShareBackSpec) :=
  OpenClaim.holds_of_wide_leaving 10 Try.f10 rfl rfl rfl rfl rfl rfl rfl ⟨rfl, rfl, rfl, rfl, rfl⟩ rfl rfl rfl rfl rfl (by kernel_rfl) Try.func10 (by kernel_rfl)
    (of_decide_eq_true (by kernel_rfl)) (by unfold Func.isWrapper; first | (rw [if_pos (by decide +kernel)]; kernel_rfl) | (rw [if_neg (by decide +kernel)]; exact ⟨rfl, rfl⟩))
    (fun os started H enc _ => lifted os started H enc)

/-- ████ THE STATEMENT ████ -/
theorem proved : Rows.FnExactShareBackSaid := over
#print axioms proved
end Go.Proofs.Ytadngncbbbbapaa.fnExactShareBack
