/-
  Through sums of values goes the sum of both polynomials: the law FnThroughSum returns true for every two codes.
  Conditions: none but the statement's own. Proved: Rows.FnThroughSumSaid.
-/
import Derived.Test.YtadngncbbbbapaaRows
import Derived.WalkKit
import Derived.ProofKit
import Derived.OpenShut
import Derived.ShutString
import Derived.ChangeOld
import Derived.Below
import Derived.Test.YtadngncbbbbapaaFp
import Derived.Test.YtadngncbbbbapaaBase
import Derived.Test.YtadngncbbbbapaaField
import Derived.Test.YtadngncbbbbapaaSl
import Derived.Test.YtadngncbbbbapaaLw
import Derived.Test.YtadngncbbbbapaaPoly
import Derived.Test.YtadngncbbbbapaaPthr
import Derived.Test.YtadngncbbbbapaaPths
import Derived.Test.YtadngncbbbbapaaKlaw
import Derived.Test.YtadngncbbbbapaaShk
import Derived.Test.YtadngncbbbbapaaShs
import Derived.Test.YtadngncbbbbapaaShm
import Derived.Test.YtadngncbbbbapaaShp
import Derived.Test.YtadngncbbbbapaaShw
import Derived.Test.YtadngncbbbbapaaDraw
import Derived.Test.YtadngncbbbbapaaDlist
import Derived.Test.YtadngncbbbbapaaKay
import Derived.Conc.Holds
import Derived.Leaving
import Derived.Conc.LeavingOf
import Derived.ChangeFn
namespace Go.Proofs.Ytadngncbbbbapaa.fnThroughSum
open Go.ChangeShapes Go.WideShapes Go.ChangeAt Go.RowKit
open Go.ChangeMaps (open_string shut_string)
set_option linter.unusedVariables false
set_option linter.unusedSimpArgs false

theorem own : ownKnob Try.prog.godebug = none := by kernel_rfl
theorem laidOut : laidOutB Try.prog = true := by kernel_rfl

theorem pok_sok {xs : List Int} (h : Fp.pok xs = true) : Fp.sok xs = true := by
  rw [Fp.pok_iff] at h
  rw [Fp.sok_iff]
  exact ⟨by omega, h.2⟩
theorem pok_of {xs : List Int} (h : Fp.sok xs = true) (hl : xs.length ≤ 9) : Fp.pok xs = true := by
  rw [Fp.pok_iff]
  exact ⟨hl, ((Fp.sok_iff _).1 h).2⟩
theorem thr_sum {vs us : List Int} (h : Fp.fit vs us = true) (h9 : vs.length ≤ 9) : Fp.fit (thrOf vs) (thrOf us) = true ∧ thrOf (Lift.add vs us) = Lift.add (thrOf vs) (thrOf us) := by
  obtain ⟨s1, s2, s3⟩ := Lift.fit_parts h
  have p1 := pok_of s1 h9
  have p2 := pok_of s2 (by omega)
  have sz := Lift.add_size h
  have p3 := pok_of (Lift.sok_add h) (by omega)
  rw [thrOf_yes p1, thrOf_yes p2, thrOf_yes p3]
  have q1 := Fp.thr_pok (vals := vs) (by omega)
  have q2 := Fp.thr_pok (vals := us) (by omega)
  have l1 : (Fp.thr vs).length = vs.length := Fp.thr_len _
  have l2 : (Fp.thr us).length = us.length := Fp.thr_len _
  have f := Lift.fit_of (pok_sok q1) (pok_sok q2) (by omega)
  refine ⟨f, (Fp.thr_uniq (by rw [Lift.add_size f, l1, sz]) (by omega) ((Fp.sok_iff _).1 (Lift.sok_add f)).2 fun m hm => ?_).symm⟩
  rw [sz] at hm
  have a1 := Fp.thr_at (vals := vs) (by omega) (m := m) (by omega)
  have a2 := Fp.thr_at (vals := us) (by omega) (m := m) (by omega)
  rw [Fp.ev_S, Lift.add_size f, Lift.add_at h (by omega)]
  refine (Fp.S_cg (g := fun i => (Fp.thr vs).getD i 0 * (m : Int) ^ i + (Fp.thr us).getD i 0 * (m : Int) ^ i) fun i hi => ?_).trans ?_
  · rw [Lift.add_at f hi, ← Int.add_mul]
    exact (Fp.cg_mod _).mul (Fp.cg.rfl' _)
  · rw [Fp.S_add]
    have a3 := a1.add a2
    rw [Fp.ev_S, Fp.ev_S, show (Fp.thr us).length = (Fp.thr vs).length by omega] at a3
    exact a3.trans (Fp.cg_mod _).symm
noncomputable def bL : Code := Try.f8.body.getD .skip
theorem hL : Try.f8.body = some bL := by kernel_rfl
theorem rL : Lift.ResOk Try.prog 8 := ⟨_, Try.func8, fun tmps => ⟨_, by simp [results, Try.f8]; rfl⟩⟩
noncomputable def d0 : Code := bL
noncomputable def y0_2 : Code := Lift.takeS 1 d0
noncomputable def d2 : Code := Lift.dropS 1 bL
noncomputable def y0_4 : Code := Lift.takeS 3 d0
noncomputable def d4 : Code := Lift.dropS 3 bL
noncomputable def y4_1 : Code := Lift.takeS 0 d4
noncomputable def d5 : Code := Lift.dropS 4 bL
noncomputable def y4_2 : Code := Lift.takeS 1 d4
noncomputable def d6 : Code := Lift.dropS 5 bL
noncomputable def d7 : Code := Lift.dropS 6 bL
noncomputable def p6 : List Oper := (Lift.opsS d6).take 2
noncomputable def o6 : Oper := (Lift.opsS d6).getD 2 default
noncomputable def q6 : List Oper := (Lift.opsS d6).drop 3
noncomputable def d8 : Code := Lift.dropS 7 bL
noncomputable def p7 : List Oper := (Lift.opsS d7).take 3
noncomputable def o7 : Oper := (Lift.opsS d7).getD 3 default
noncomputable def q7 : List Oper := (Lift.opsS d7).drop 4
set_option maxHeartbeats 1000000 in
set_option maxRecDepth 100000 in
theorem walk (a0 : Option Addr) (len0 cap0 : Nat) (z0 : List Int) (a1 : Option Addr) (len1 cap1 : Nat) (z1 : List Int) (w : World) (w0 : IsRow .u8 w a0 len0 cap0 z0) (w1 : IsRow .u8 w a1 len1 cap1 z1) :
    Lift.K Try.prog w.heap.size (Go.Conc.G (Frame.enter Try.prog 8 #[.slice a0 len0 cap0, .slice a1 len1 cap1] .normal) []) w (Lift.AtRet Try.prog w.heap.size fun x w' => x = .bool true ∧ Lift.Blw w.heap.size w w') := by
  obtain ⟨c1, c2⟩ := w0.sizes
  have Hb := Lib.hid (Bys.of_row w0)
  clear w0 w1
  refine Lift.KW.law Try.func8 hL (by kernel_rfl) ?_
  simp only [Try.ntmps8, List.size_toArray, List.length_cons, List.length_nil, Nat.reduceAdd, Nat.reduceSub, Array.replicate_succ, Array.replicate_zero, List.push_toArray, List.append_toArray, List.nil_append, List.cons_append]
  rw [show bL = d0 from rfl]
  have B := Lib.hid (Lift.Blw.refl w.heap.size w)
  by_cases hl : 1048576 < len0
  · skip
    refine Lift.KW.stmts 1 (d := d0) (y := y0_2) (z := d2) rL (by kernel_rfl) (by kernel_rfl) (by kernel_rfl) fun τ => ?_
    simp only [y0_2, Lift.takeS, d0, Lift.dropS, bL, Try.f8, Option.getD_some]
    obtain ⟨W1, hV⟩ : ∃ V, Lift.re w τ 0 = V := ⟨_, rfl⟩
    rw [hV]
    replace B := Lib.hid (B.out.at hV)
    have Z_W1 : w.heap.size ≤ W1.heap.size := by rw [← hV]; exact Nat.le_refl _
    clear hV
    go_wp2
    exact .inr ⟨rfl, rfl, .inr rfl, rfl, _, _, Try.func8, by kernel_rfl, rfl, B.out⟩
  by_cases hl' : 1048576 < len1
  · skip
    refine Lift.KW.stmts 1 (d := d0) (y := y0_2) (z := d2) rL (by kernel_rfl) (by kernel_rfl) (by kernel_rfl) fun τ => ?_
    simp only [y0_2, Lift.takeS, d0, Lift.dropS, bL, Try.f8, Option.getD_some]
    obtain ⟨W2, hV⟩ : ∃ V, Lift.re w τ 0 = V := ⟨_, rfl⟩
    rw [hV]
    replace B := Lib.hid (B.out.at hV)
    have Z_W2 : w.heap.size ≤ W2.heap.size := by rw [← hV]; exact Nat.le_refl _
    clear hV
    go_wp2
    exact .inr ⟨rfl, rfl, .inr rfl, rfl, _, _, Try.func8, by kernel_rfl, rfl, B.out⟩
  refine Lift.KW.stmts 3 (d := d0) (y := y0_4) (z := d4) rL (by kernel_rfl) (by kernel_rfl) (by kernel_rfl) fun τ => ?_
  simp only [y0_4, Lift.takeS, d0, Lift.dropS, bL, Try.f8, Option.getD_some]
  obtain ⟨W3, hV⟩ : ∃ V, Lift.re w τ 0 = V := ⟨_, rfl⟩
  rw [hV]
  replace B := Lib.hid (B.out.at hV)
  have Z_W3 : w.heap.size ≤ W3.heap.size := by rw [← hV]; exact Nat.le_refl _
  replace Hb := Lib.hid (Lift.bys_at Hb.out hV)
  clear hV
  go_wp2_with fail
  refine (spec_DrawPolyThrough a0 len0 cap0 _ Hb.out c1 c2).mono ?_
  rintro e W4 ⟨a_v, n_v, c_v, vs, h_v, rfl, o_v, b_d⟩
  have Z_W4 : W3.heap.size ≤ W4.heap.size := b_d.size
  have O_v := Lib.hid o_v
  have L_v := Lib.hid o_v.len
  replace B := Lib.hid (B.out.next b_d)
  clear b_d o_v
  clear c1 c2 Hb
  have e1 := eqB_self (thrOf vs)
  have pl := Lib.hid (thrOf_len vs)
  go_wp2_with fail
  refine (impl_PolyThrough _ _ _ _ _ O_v.out.sl).mono ?_
  rintro e W5 ⟨a_p, n_p, c_p, rfl, o_p, b_p⟩
  have O_p := Lib.hid o_p
  have L_p := Lib.hid o_p.len
  have Z_W5 : W4.heap.size ≤ W5.heap.size := b_p.size
  replace O_v := Lib.hid (O_v.out.below b_p)
  replace B := Lib.hid (B.out.next b_p)
  clear o_p b_p
  have h_p : n_p ≤ 9 := by rw [← L_p.out]; exact pl.out
  go_wp2
  refine .inl ⟨rfl, rfl, ?_⟩
  try dsimp only
  cases hp : Fp.pok vs
  · skip
    refine Lift.KW.stmts 0 (d := d4) (y := y4_1) (z := d5) rL (by kernel_rfl) (by kernel_rfl) (by kernel_rfl) fun τ => ?_
    simp only [y4_1, Lift.takeS, d4, Lift.dropS, bL, Try.f8, Option.getD_some]
    obtain ⟨W6, hV⟩ : ∃ V, Lift.re W5 τ 0 = V := ⟨_, rfl⟩
    rw [hV]
    replace B := Lib.hid (B.out.at hV)
    have Z_W6 : W5.heap.size ≤ W6.heap.size := by rw [← hV]; exact Nat.le_refl _
    replace O_v := Lib.hid (Lift.own_at O_v.out hV)
    replace O_p := Lib.hid (Lift.own_at O_p.out hV)
    clear hV
    go_wp2_with fail
    refine (spec_PolyThrough _ _ _ _ _ O_v.out.sl (by omega)).mono ?_
    rintro e W7 ⟨a_q, n_q, c_q, rfl, o_q, b_q⟩
    have O_q := Lib.hid o_q
    have L_q := Lib.hid o_q.len
    have Z_W7 : W6.heap.size ≤ W7.heap.size := b_q.size
    replace O_v := Lib.hid (O_v.out.below b_q)
    replace O_p := Lib.hid (O_p.out.below b_q)
    replace B := Lib.hid (B.out.next b_q)
    clear o_q b_q
    have h_q : n_q ≤ 9 := by rw [← L_q.out]; exact pl.out
    go_wp2_with fail
    refine (laws_loInts _ _ _ _ _ _ _ _ _ O_p.out.sl O_q.out.sl (by omega) (by omega)).mono ?_
    rintro e W8 hd
    obtain ⟨rfl, b_d⟩ := hd.below
    have Z_W8 : W7.heap.size ≤ W8.heap.size := b_d.size
    clear hd
    replace O_v := Lib.hid (O_v.out.below b_d)
    replace O_p := Lib.hid (O_p.out.below b_d)
    replace O_q := Lib.hid (O_q.out.below b_d)
    replace B := Lib.hid (B.out.next b_d)
    clear b_d
    go_wp2_with fail
    refine (spec_PolyOk _ _ _ _ _ O_v.out.sl (by omega)).mono ?_
    rintro e w' ⟨rfl, rfl⟩
    go_wp2_with fail
    refine (spec_PolyThrough _ _ _ _ _ O_v.out.sl (by omega)).mono ?_
    rintro e W9 ⟨a_r, n_r, c_r, rfl, o_r, b_r⟩
    have O_r := Lib.hid o_r
    have L_r := Lib.hid o_r.len
    have Z_W9 : W8.heap.size ≤ W9.heap.size := b_r.size
    replace O_v := Lib.hid (O_v.out.below b_r)
    replace O_p := Lib.hid (O_p.out.below b_r)
    replace O_q := Lib.hid (O_q.out.below b_r)
    replace B := Lib.hid (B.out.next b_r)
    clear o_r b_r
    have h_r : n_r ≤ 9 := by rw [← L_r.out]; exact pl.out
    go_wp2_with fail
    refine (laws_loInts _ _ _ _ _ _ _ _ _ O_p.out.sl O_r.out.sl (by omega) (by omega)).mono ?_
    rintro e W10 hd
    obtain ⟨rfl, b_d⟩ := hd.below
    have Z_W10 : W9.heap.size ≤ W10.heap.size := b_d.size
    clear hd
    replace O_v := Lib.hid (O_v.out.below b_d)
    replace O_p := Lib.hid (O_p.out.below b_d)
    replace O_q := Lib.hid (O_q.out.below b_d)
    replace O_r := Lib.hid (O_r.out.below b_d)
    replace B := Lib.hid (B.out.next b_d)
    clear b_d
    go_wp2
    exact .inr ⟨rfl, rfl, .inr rfl, rfl, _, _, Try.func8, by kernel_rfl, rfl, B.out⟩
  · skip
    have s1 := pok_sok hp
    have hf : Fp.fit vs (some_ len1 n_v) = true := Lift.fit_of s1 (Lift.some_sok _ _ (by omega)) (by rw [some_len]; exact L_v.out)
    obtain ⟨f1, f2⟩ := thr_sum hf (by rw [L_v.out]; exact h_v)
    have F2 := Lib.hid f2
    clear f2
    refine Lift.KW.stmts 1 (d := d4) (y := y4_2) (z := d6) rL (by kernel_rfl) (by kernel_rfl) (by kernel_rfl) fun τ => ?_
    simp only [y4_2, Lift.takeS, d4, Lift.dropS, bL, Try.f8, Option.getD_some]
    obtain ⟨W11, hV⟩ : ∃ V, Lift.re W5 τ 0 = V := ⟨_, rfl⟩
    rw [hV]
    replace B := Lib.hid (B.out.at hV)
    have Z_W11 : W5.heap.size ≤ W11.heap.size := by rw [← hV]; exact Nat.le_refl _
    replace O_v := Lib.hid (Lift.own_at O_v.out hV)
    replace O_p := Lib.hid (Lift.own_at O_p.out hV)
    clear hV
    go_wp2_with fail
    refine (spec_PolyThrough _ _ _ _ _ O_v.out.sl (by omega)).mono ?_
    rintro e W12 ⟨a_q, n_q, c_q, rfl, o_q, b_q⟩
    have O_q := Lib.hid o_q
    have L_q := Lib.hid o_q.len
    have Z_W12 : W11.heap.size ≤ W12.heap.size := b_q.size
    replace O_v := Lib.hid (O_v.out.below b_q)
    replace O_p := Lib.hid (O_p.out.below b_q)
    replace B := Lib.hid (B.out.next b_q)
    clear o_q b_q
    have h_q : n_q ≤ 9 := by rw [← L_q.out]; exact pl.out
    go_wp2_with fail
    refine (laws_loInts _ _ _ _ _ _ _ _ _ O_p.out.sl O_q.out.sl (by omega) (by omega)).mono ?_
    rintro e W13 hd
    obtain ⟨rfl, b_d⟩ := hd.below
    have Z_W13 : W12.heap.size ≤ W13.heap.size := b_d.size
    clear hd
    replace O_v := Lib.hid (O_v.out.below b_d)
    replace O_p := Lib.hid (O_p.out.below b_d)
    replace O_q := Lib.hid (O_q.out.below b_d)
    replace B := Lib.hid (B.out.next b_d)
    clear b_d
    go_wp2_with fail
    refine (spec_PolyOk _ _ _ _ _ O_v.out.sl (by omega)).mono ?_
    rintro e w' ⟨rfl, rfl⟩
    go_wp2_with fail
    refine (laws_loSome len1 n_v _ (by omega) (by omega)).mono ?_
    rintro e W14 ⟨a_r, n_r, c_r, rfl, o_r, b_r⟩
    have O_r := Lib.hid o_r
    have L_r := Lib.hid o_r.len
    have Z_W14 : W13.heap.size ≤ W14.heap.size := b_r.size
    replace O_v := Lib.hid (O_v.out.below b_r)
    replace O_p := Lib.hid (O_p.out.below b_r)
    replace O_q := Lib.hid (O_q.out.below b_r)
    replace B := Lib.hid (B.out.next b_r)
    clear o_r b_r
    go_wp2
    refine .inl ⟨rfl, rfl, ?_⟩
    try dsimp only
    refine Lift.KW.callS (id := 8) (d := d6) (z := d7) (m1 := p6) (m2 := q6) (o := o6) (f := 25) (args := fun a => #[a.eval (.tmp 44), a.eval (.tmp 45)]) (by kernel_rfl) (by kernel_rfl) (by kernel_rfl) (fun ys => by kernel_rfl) (fun tm w => by kernel_rfl) fun τ => ?_
    simp only [p6, q6, o6, Lift.opsS, d6, Lift.dropS, bL, Try.f8, Option.getD_some, List.take_succ_cons, List.take_zero, List.drop_succ_cons, List.drop_zero, List.getD_cons_succ, List.getD_cons_zero, List.cons_append, List.nil_append]
    obtain ⟨W15, hV⟩ : ∃ V, Lift.re W14 τ 0 = V := ⟨_, rfl⟩
    rw [hV]
    replace B := Lib.hid (B.out.at hV)
    have Z_W15 : W14.heap.size ≤ W15.heap.size := by rw [← hV]; exact Nat.le_refl _
    replace O_v := Lib.hid (Lift.own_at O_v.out hV)
    replace O_p := Lib.hid (Lift.own_at O_p.out hV)
    replace O_q := Lib.hid (Lift.own_at O_q.out hV)
    replace O_r := Lib.hid (Lift.own_at O_r.out hV)
    clear hV
    go_wp2
    try refine ⟨rfl, rfl, ?_⟩
    refine (Lift.sum_k hf rfl B.out.size O_v.out.sl O_r.out.sl O_v.out.le O_r.out.le).mono ?_
    rintro r W16 ⟨a_s, n_s, c_s, rfl, o_s, b_k⟩ τ
    have Z_W16 : W15.heap.size ≤ W16.heap.size := b_k.size
    have O_s := Lib.hid o_s
    have L_s := Lib.hid o_s.len
    replace O_v := Lib.hid (Lift.own_blw O_v.out b_k)
    replace O_p := Lib.hid (Lift.own_blw O_p.out b_k)
    replace O_q := Lib.hid (Lift.own_blw O_q.out b_k)
    replace O_r := Lib.hid (Lift.own_blw O_r.out b_k)
    replace B := Lib.hid (B.out.trans (b_k.mono B.out.size))
    clear b_k o_s
    obtain ⟨W17, hV⟩ : ∃ V, Lift.re W16 τ 0 = V := ⟨_, rfl⟩
    rw [hV]
    replace B := Lib.hid (B.out.at hV)
    have Z_W17 : W16.heap.size ≤ W17.heap.size := by rw [← hV]; exact Nat.le_refl _
    replace O_v := Lib.hid (Lift.own_at O_v.out hV)
    replace O_p := Lib.hid (Lift.own_at O_p.out hV)
    replace O_q := Lib.hid (Lift.own_at O_q.out hV)
    replace O_r := Lib.hid (Lift.own_at O_r.out hV)
    replace O_s := Lib.hid (Lift.own_at O_s.out hV)
    clear hV
    go_wp2
    try refine ⟨rfl, rfl, ?_⟩
    try dsimp only
    refine Lift.KW.callS (id := 9) (d := d7) (z := d8) (m1 := p7) (m2 := q7) (o := o7) (f := 25) (args := fun a => #[a.eval (.tmp 50), a.eval (.tmp 52)]) (by kernel_rfl) (by kernel_rfl) (by kernel_rfl) (fun ys => by kernel_rfl) (fun tm w => by kernel_rfl) fun τ => ?_
    simp only [p7, q7, o7, Lift.opsS, d7, Lift.dropS, bL, Try.f8, Option.getD_some, List.take_succ_cons, List.take_zero, List.drop_succ_cons, List.drop_zero, List.getD_cons_succ, List.getD_cons_zero, List.cons_append, List.nil_append]
    obtain ⟨W18, hV⟩ : ∃ V, Lift.re W17 τ 0 = V := ⟨_, rfl⟩
    rw [hV]
    replace B := Lib.hid (B.out.at hV)
    have Z_W18 : W17.heap.size ≤ W18.heap.size := by rw [← hV]; exact Nat.le_refl _
    replace O_v := Lib.hid (Lift.own_at O_v.out hV)
    replace O_p := Lib.hid (Lift.own_at O_p.out hV)
    replace O_q := Lib.hid (Lift.own_at O_q.out hV)
    replace O_r := Lib.hid (Lift.own_at O_r.out hV)
    replace O_s := Lib.hid (Lift.own_at O_s.out hV)
    clear hV
    go_wp2_with fail
    refine (impl_PolyThrough _ _ _ _ _ O_r.out.sl).mono ?_
    rintro e W19 ⟨a_t, n_t, c_t, rfl, o_t, b_t⟩
    have O_t := Lib.hid o_t
    have L_t := Lib.hid o_t.len
    have Z_W19 : W18.heap.size ≤ W19.heap.size := b_t.size
    replace O_v := Lib.hid (O_v.out.below b_t)
    replace O_p := Lib.hid (O_p.out.below b_t)
    replace O_q := Lib.hid (O_q.out.below b_t)
    replace O_r := Lib.hid (O_r.out.below b_t)
    replace O_s := Lib.hid (O_s.out.below b_t)
    replace B := Lib.hid (B.out.next b_t)
    clear o_t b_t
    go_wp2
    try refine ⟨rfl, rfl, ?_⟩
    refine (Lift.sum_k f1 F2.out.symm B.out.size O_p.out.sl O_t.out.sl O_p.out.le O_t.out.le).mono ?_
    rintro r W20 ⟨a_u, n_u, c_u, rfl, o_u, b_k⟩ τ
    have Z_W20 : W19.heap.size ≤ W20.heap.size := b_k.size
    have O_u := Lib.hid o_u
    have L_u := Lib.hid o_u.len
    replace O_v := Lib.hid (Lift.own_blw O_v.out b_k)
    replace O_p := Lib.hid (Lift.own_blw O_p.out b_k)
    replace O_q := Lib.hid (Lift.own_blw O_q.out b_k)
    replace O_r := Lib.hid (Lift.own_blw O_r.out b_k)
    replace O_s := Lib.hid (Lift.own_blw O_s.out b_k)
    replace O_t := Lib.hid (Lift.own_blw O_t.out b_k)
    replace B := Lib.hid (B.out.trans (b_k.mono B.out.size))
    clear b_k o_u
    obtain ⟨W21, hV⟩ : ∃ V, Lift.re W20 τ 0 = V := ⟨_, rfl⟩
    rw [hV]
    replace B := Lib.hid (B.out.at hV)
    have Z_W21 : W20.heap.size ≤ W21.heap.size := by rw [← hV]; exact Nat.le_refl _
    replace O_v := Lib.hid (Lift.own_at O_v.out hV)
    replace O_p := Lib.hid (Lift.own_at O_p.out hV)
    replace O_q := Lib.hid (Lift.own_at O_q.out hV)
    replace O_r := Lib.hid (Lift.own_at O_r.out hV)
    replace O_s := Lib.hid (Lift.own_at O_s.out hV)
    replace O_t := Lib.hid (Lift.own_at O_t.out hV)
    replace O_u := Lib.hid (Lift.own_at O_u.out hV)
    clear hV
    go_wp2
    try refine ⟨rfl, rfl, ?_⟩
    try dsimp only
    have e2 := eqB_self (thrOf (Lift.add vs (some_ len1 n_v)))
    have ql := Lib.hid (thrOf_len (Lift.add vs (some_ len1 n_v)))
    have h_u : n_u ≤ 9 := by rw [← L_u.out]; exact ql.out
    refine Lift.KW.last (d := d8) rL (by kernel_rfl) fun τ => ?_
    simp only [d8, Lift.dropS, bL, Try.f8, Option.getD_some]
    obtain ⟨W22, hV⟩ : ∃ V, Lift.re W21 τ 0 = V := ⟨_, rfl⟩
    rw [hV]
    replace B := Lib.hid (B.out.at hV)
    have Z_W22 : W21.heap.size ≤ W22.heap.size := by rw [← hV]; exact Nat.le_refl _
    replace O_v := Lib.hid (Lift.own_at O_v.out hV)
    replace O_p := Lib.hid (Lift.own_at O_p.out hV)
    replace O_q := Lib.hid (Lift.own_at O_q.out hV)
    replace O_r := Lib.hid (Lift.own_at O_r.out hV)
    replace O_s := Lib.hid (Lift.own_at O_s.out hV)
    replace O_t := Lib.hid (Lift.own_at O_t.out hV)
    replace O_u := Lib.hid (Lift.own_at O_u.out hV)
    clear hV
    go_wp2_with fail
    refine (impl_PolyThrough _ _ _ _ _ O_s.out.sl).mono ?_
    rintro e W23 ⟨a_x, n_x, c_x, rfl, o_x, b_x⟩
    have O_x := Lib.hid o_x
    have L_x := Lib.hid o_x.len
    have Z_W23 : W22.heap.size ≤ W23.heap.size := b_x.size
    replace O_v := Lib.hid (O_v.out.below b_x)
    replace O_p := Lib.hid (O_p.out.below b_x)
    replace O_q := Lib.hid (O_q.out.below b_x)
    replace O_r := Lib.hid (O_r.out.below b_x)
    replace O_s := Lib.hid (O_s.out.below b_x)
    replace O_t := Lib.hid (O_t.out.below b_x)
    replace O_u := Lib.hid (O_u.out.below b_x)
    replace B := Lib.hid (B.out.next b_x)
    clear o_x b_x
    have h_x : n_x ≤ 9 := by rw [← L_x.out]; exact ql.out
    go_wp2_with fail
    refine (laws_loInts _ _ _ _ _ _ _ _ _ O_x.out.sl O_u.out.sl (by omega) (by omega)).mono ?_
    rintro e W24 hd
    obtain ⟨rfl, b_d⟩ := hd.below
    have Z_W24 : W23.heap.size ≤ W24.heap.size := b_d.size
    clear hd
    replace O_v := Lib.hid (O_v.out.below b_d)
    replace O_p := Lib.hid (O_p.out.below b_d)
    replace O_q := Lib.hid (O_q.out.below b_d)
    replace O_r := Lib.hid (O_r.out.below b_d)
    replace O_s := Lib.hid (O_s.out.below b_d)
    replace O_t := Lib.hid (O_t.out.below b_d)
    replace O_u := Lib.hid (O_u.out.below b_d)
    replace O_x := Lib.hid (O_x.out.below b_d)
    replace B := Lib.hid (B.out.next b_d)
    clear b_d
    go_wp2
    exact .inr ⟨rfl, rfl, .inr rfl, rfl, _, _, Try.func8, by kernel_rfl, rfl, B.out⟩

/-! ### THE ROW's STEP: WRITTEN OUT: LEAVE IT -/
set_option maxRecDepth 100000 in
theorem lifted (os : Os) (started : os.Started) (H : Type) (enc : TypeId × Value → H) :
    ReturnsInLeavingWide {} Try.checked os 8 .any (Rows.fnThroughSumSpec.pre6 enc Try.prog Try.f8 Rows.fnThroughSumRow.domain false) (Rows.fnThroughSumSpec.post enc Try.prog Try.f8 false true false false) := by
  refine returnsInLeavingWide_of_change_sized (C := Try.checked) own started Try.func8
    (ChangeSpec.witness6 (enc := enc) (C := Try.checked) false ⟨#[], #[.slice none 0 0, .slice none 0 0], []⟩ 8 (by kernel_rfl) (by kernel_rfl) (by kernel_rfl) (by kernel_rfl)) ?_
  intro W base args ds gs before hval0 hW hcnd _ _
  have hval : ∀ (j : Nat) t v, Try.f8.params[j]? = some t → args[j]? = some v → Value.okWide Try.prog W .any base t v := hval0
  have hW' := hW
  obtain ⟨p, q, hA0, hV, rfl, hfz, hnd⟩ := hW
  have hA : DataW.TrodAll enc Try.prog W 0 (fun _ => true) true Try.f8.params.toList args.toList ds p := hA0
  rw [Try.params8] at hA hval
  obtain ⟨v0, vs0, d0, ds0, p0, q0, hargs, rfl, rfl, h0, r0⟩ := trodAll_cons hA
  obtain ⟨v1, vs1, d1, ds1, p1, q1, rfl, rfl, rfl, h1, r1⟩ := trodAll_cons r0
  obtain ⟨rfl, rfl, rfl⟩ := trodAll_nil r1
  obtain rfl : args = #[v0, v1] := by cases args; simp_all
  obtain ⟨rfl, rfl⟩ := trodVars_none hV
  obtain ⟨a0, len0, cap0, rfl⟩ := okWide_slice Try.underlying22 (hval 0 22 v0 rfl rfl)
  have k0 := h0
  have lt0 : ∀ x ∈ p0, x.block < W.heap.size := by obtain ⟨m, hm⟩ := k0; exact DataW.trod_lt m _ _ _ hm
  obtain ⟨z0, w0⟩ : ∃ zs, IsRow .u8 W a0 len0 cap0 zs := by
    obtain ⟨fuel, hf⟩ := h0
    rcases open_ints Try.underlying22 Try.underlying5 (by kernel_rfl) hf with ⟨hcs, _⟩ | ⟨x, l, c, zs, hcs, _, hl, hm, hz, _, hcell, hwz⟩
    · simp [Value.cells] at hcs
      obtain ⟨rfl, rfl, rfl⟩ := hcs
      exact ⟨[], .inl ⟨rfl, rfl, rfl, rfl⟩⟩
    · simp [Value.cells] at hcs
      obtain ⟨rfl, rfl, rfl⟩ := hcs
      exact ⟨zs, .inr ⟨_, rfl, hl, hm, by simpa using hz, hcell, hwz⟩⟩
  obtain ⟨a1, len1, cap1, rfl⟩ := okWide_slice Try.underlying22 (hval 1 22 v1 rfl rfl)
  have k1 := h1
  have lt1 : ∀ x ∈ p1, x.block < W.heap.size := by obtain ⟨m, hm⟩ := k1; exact DataW.trod_lt m _ _ _ hm
  obtain ⟨z1, w1⟩ : ∃ zs, IsRow .u8 W a1 len1 cap1 zs := by
    obtain ⟨fuel, hf⟩ := h1
    rcases open_ints Try.underlying22 Try.underlying5 (by kernel_rfl) hf with ⟨hcs, _⟩ | ⟨x, l, c, zs, hcs, _, hl, hm, hz, _, hcell, hwz⟩
    · simp [Value.cells] at hcs
      obtain ⟨rfl, rfl, rfl⟩ := hcs
      exact ⟨[], .inl ⟨rfl, rfl, rfl, rfl⟩⟩
    · simp [Value.cells] at hcs
      obtain ⟨rfl, rfl, rfl⟩ := hcs
      exact ⟨zs, .inr ⟨_, rfl, hl, hm, by simpa using hz, hcell, hwz⟩⟩
  clear hA0 hval0
  obtain ⟨M, last, o, w', t', g1, g2, g3, g4⟩ := Lift.K.done (walk a0 len0 cap0 z0 a1 len1 cap1 z1 W w0 w1)
  refine ⟨M, last, o, w', t', g1, g2, g3, g4.mono fun v hp => ?_⟩
  obtain ⟨rfl, bel0⟩ := hp
  have bel := bel0.below
  exact ⟨_, _, _, [], _, [], hW', trodAll_mk1 (shut_bool Try.underlying4 _), DataW.TrodAll.of_heap (w := Lift.re w' W.tape w'.drawn) (w' := w') rfl (trodAll_cons_mk (Below.trod laidOut (by kernel_rfl) (of_decide_eq_true (by kernel_rfl)) k0 bel lt0) (trodAll_cons_mk (Below.trod laidOut (by kernel_rfl) (of_decide_eq_true (by kernel_rfl)) k1 bel lt1) trodAll_mk0)), rfl, bel0.frame _, fun h => by cases h⟩

theorem over : Rows.fnThroughSumRow.holds Try.pinned (OpenSpec.ofChange Rows.fnThroughSumSpec) :=
  OpenClaim.holds_of_wide_leaving 8 Try.f8 rfl rfl rfl rfl rfl rfl rfl ⟨rfl, rfl, rfl, rfl, rfl⟩ rfl rfl rfl rfl rfl (by kernel_rfl) Try.func8 (by kernel_rfl)
    (of_decide_eq_true (by kernel_rfl)) (by unfold Func.isWrapper; first | (rw [if_pos (by decide +kernel)]; kernel_rfl) | (rw [if_neg (by decide +kernel)]; exact ⟨rfl, rfl⟩))
    (fun os started H enc _ => lifted os started H enc)

/-- ████ THE STATEMENT ████ -/
theorem proved : Rows.FnThroughSumSaid := over
#print axioms proved
end Go.Proofs.Ytadngncbbbbapaa.fnThroughSum
