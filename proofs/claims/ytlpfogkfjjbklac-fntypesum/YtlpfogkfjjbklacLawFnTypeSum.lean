/-
  Numbers of two values are together told by each: the law FnTypeSum returns true for every two codes.
  Conditions: none but the statement's own. Proved: Rows.FnTypeSumSaid.
-/
import Derived.Test.YtlpfogkfjjbklacRows
import Derived.WalkKit
import Derived.ProofKit
import Derived.OpenShut
import Derived.ShutString
import Derived.ChangeOld
import Derived.Below
import Derived.Test.YtlpfogkfjjbklacFp
import Derived.Test.YtlpfogkfjjbklacBase
import Derived.Test.YtlpfogkfjjbklacField
import Derived.Test.YtlpfogkfjjbklacSl
import Derived.Test.YtlpfogkfjjbklacLw
import Derived.Test.YtlpfogkfjjbklacPm
import Derived.Test.YtlpfogkfjjbklacShok
import Derived.Test.YtlpfogkfjjbklacTy
import Derived.Test.YtlpfogkfjjbklacTym
import Derived.Test.YtlpfogkfjjbklacTyn
import Derived.Test.YtlpfogkfjjbklacTys
import Derived.Test.YtlpfogkfjjbklacTyr
import Derived.Test.YtlpfogkfjjbklacKlaw
import Derived.Test.YtlpfogkfjjbklacShk
import Derived.Test.YtlpfogkfjjbklacShs
import Derived.Test.YtlpfogkfjjbklacShm
import Derived.Test.YtlpfogkfjjbklacShp
import Derived.Test.YtlpfogkfjjbklacShw
import Derived.Test.YtlpfogkfjjbklacDraw
import Derived.Test.YtlpfogkfjjbklacDlist
import Derived.Test.YtlpfogkfjjbklacTyd
import Derived.Test.YtlpfogkfjjbklacKay
import Derived.Conc.Holds
import Derived.Leaving
import Derived.Conc.LeavingOf
import Derived.ChangeFn
namespace Go.Proofs.Ytlpfogkfjjbklac.fnTypeSum
open Go.ChangeShapes Go.WideShapes Go.ChangeAt Go.RowKit
open Go.ChangeMaps (open_string shut_string)
set_option linter.unusedVariables false
set_option linter.unusedSimpArgs false

theorem own : ownKnob Try.prog.godebug = none := by kernel_rfl
theorem laidOut : laidOutB Try.prog = true := by kernel_rfl

theorem enc_fit {k v u : Int} (h : Fp.tcan k v = true) (h' : Fp.tcan k u = true) : Fp.fit (Fp.tmk k v) (Fp.tmk k u) = true := by
  have s1 := (Fp.tvec_iff.1 (Fp.tok_vec (Fp.tmk_back h).2)).2.1
  have s2 := (Fp.tvec_iff.1 (Fp.tok_vec (Fp.tmk_back h').2)).2.1
  exact Lift.fit_of s1 s2 (by rw [Fp.tmk_len_yes h, Fp.tmk_len_yes h'])
theorem enc_bit {k v : Int} (h : Fp.tcan k v = true) {i : Nat} (hi : i < Fp.tlen k) : (Fp.tmk k v).getD i 0 = 0 ∨ (Fp.tmk k v).getD i 0 = 1 := (Fp.tok_bits (Fp.tmk_back h).2).1 i hi
theorem can_bit {k v : Int} (h : Fp.tcan k v = true) {o : Nat} (ho : o < 2) : Fp.tcan k (o : Int) = true := by
  obtain ⟨hk, -, -⟩ := Fp.tcan_iff.1 h
  have hm : 1 ≤ Fp.tmost k := by rcases Fp.tk_cases hk with rfl | rfl | rfl <;> decide
  exact Fp.tcan_yes hk (by omega) (by omega)
noncomputable def bL : Code := Try.f3.body.getD .skip
theorem hL : Try.f3.body = some bL := by kernel_rfl
theorem rL : Lift.ResOk Try.prog 3 := ⟨_, Try.func3, fun tmps => ⟨_, by simp [results, Try.f3]; rfl⟩⟩
noncomputable def d0 : Code := bL
noncomputable def y0_2 : Code := Lift.takeS 1 d0
noncomputable def d2 : Code := Lift.dropS 1 bL
noncomputable def y0_5 : Code := Lift.takeS 4 d0
noncomputable def d5 : Code := Lift.dropS 4 bL
noncomputable def y5_1 : Code := Lift.takeS 0 d5
noncomputable def d6 : Code := Lift.dropS 5 bL
noncomputable def y5_2 : Code := Lift.takeS 1 d5
noncomputable def d7 : Code := Lift.dropS 6 bL
noncomputable def d8 : Code := Lift.dropS 7 bL
noncomputable def p7 : List Oper := (Lift.opsS d7).take 2
noncomputable def o7 : Oper := (Lift.opsS d7).getD 2 default
noncomputable def q7 : List Oper := (Lift.opsS d7).drop 3
set_option maxHeartbeats 1000000 in
set_option maxRecDepth 100000 in
theorem walk (a0 : Option Addr) (len0 cap0 : Nat) (z0 : List Int) (a1 : Option Addr) (len1 cap1 : Nat) (z1 : List Int) (w : World) (w0 : IsRow .u8 w a0 len0 cap0 z0) (w1 : IsRow .u8 w a1 len1 cap1 z1) :
    Lift.K Try.prog w.heap.size (Go.Conc.G (Frame.enter Try.prog 3 #[.slice a0 len0 cap0, .slice a1 len1 cap1] .normal) []) w (Lift.AtRet Try.prog w.heap.size fun x w' => x = .bool true ∧ Lift.Blw w.heap.size w w') := by
  obtain ⟨c1, c2⟩ := w0.sizes
  have Hb := Lib.hid (Bys.of_row w0)
  clear w0 w1
  refine Lift.KW.law Try.func3 hL (by kernel_rfl) ?_
  simp only [Try.ntmps3, List.size_toArray, List.length_cons, List.length_nil, Nat.reduceAdd, Nat.reduceSub, Array.replicate_succ, Array.replicate_zero, List.push_toArray, List.append_toArray, List.nil_append, List.cons_append]
  rw [show bL = d0 from rfl]
  have B := Lib.hid (Lift.Blw.refl w.heap.size w)
  by_cases hl : 1048576 < len0
  · skip
    refine Lift.KW.stmts 1 (d := d0) (y := y0_2) (z := d2) rL (by kernel_rfl) (by kernel_rfl) (by kernel_rfl) fun τ => ?_
    simp only [y0_2, Lift.takeS, d0, Lift.dropS, bL, Try.f3, Option.getD_some]
    obtain ⟨W1, hV⟩ : ∃ V, Lift.re w τ 0 = V := ⟨_, rfl⟩
    rw [hV]
    replace B := Lib.hid (B.out.at hV)
    have Z_W1 : w.heap.size ≤ W1.heap.size := by rw [← hV]; exact Nat.le_refl _
    clear hV
    go_wp2
    exact .inr ⟨rfl, rfl, .inr rfl, rfl, _, _, Try.func3, by kernel_rfl, rfl, B.out⟩
  by_cases hl' : 1048576 < len1
  · skip
    refine Lift.KW.stmts 1 (d := d0) (y := y0_2) (z := d2) rL (by kernel_rfl) (by kernel_rfl) (by kernel_rfl) fun τ => ?_
    simp only [y0_2, Lift.takeS, d0, Lift.dropS, bL, Try.f3, Option.getD_some]
    obtain ⟨W2, hV⟩ : ∃ V, Lift.re w τ 0 = V := ⟨_, rfl⟩
    rw [hV]
    replace B := Lib.hid (B.out.at hV)
    have Z_W2 : w.heap.size ≤ W2.heap.size := by rw [← hV]; exact Nat.le_refl _
    clear hV
    go_wp2
    exact .inr ⟨rfl, rfl, .inr rfl, rfl, _, _, Try.func3, by kernel_rfl, rfl, B.out⟩
  refine Lift.KW.stmts 4 (d := d0) (y := y0_5) (z := d5) rL (by kernel_rfl) (by kernel_rfl) (by kernel_rfl) fun τ => ?_
  simp only [y0_5, Lift.takeS, d0, Lift.dropS, bL, Try.f3, Option.getD_some]
  obtain ⟨W3, hV⟩ : ∃ V, Lift.re w τ 0 = V := ⟨_, rfl⟩
  rw [hV]
  replace B := Lib.hid (B.out.at hV)
  have Z_W3 : w.heap.size ≤ W3.heap.size := by rw [← hV]; exact Nat.le_refl _
  replace Hb := Lib.hid (Lift.bys_at Hb.out hV)
  clear hV
  go_wp2_with fail
  refine (spec_DrawTypeMake a0 len0 cap0 _ Hb.out c1 c2).mono ?_
  rintro e W4 ⟨k, v, k1, k2, v1, v2, rfl, b_d⟩
  have Z_W4 : W3.heap.size ≤ W4.heap.size := b_d.size
  replace B := Lib.hid (B.out.next b_d)
  clear b_d
  clear c1 c2 Hb
  have e1 := eqB_self (Fp.tmk k v)
  have pl := Lib.hid (Fp.tmk_len k v)
  go_wp2_with fail
  refine (spec_TypeMake _ _ _).mono ?_
  rintro e W5 ⟨a_p, n_p, c_p, rfl, o_p, b_p⟩
  have O_p := Lib.hid o_p
  have L_p := Lib.hid o_p.len
  have Z_W5 : W4.heap.size ≤ W5.heap.size := b_p.size
  replace B := Lib.hid (B.out.next b_p)
  clear o_p b_p
  have h_p : n_p ≤ 4 := by rw [← L_p.out]; exact pl.out
  go_wp2_with fail
  refine (impl_TypeMake _ _ _).mono ?_
  rintro e W6 ⟨a_q, n_q, c_q, rfl, o_q, b_q⟩
  have O_q := Lib.hid o_q
  have L_q := Lib.hid o_q.len
  have Z_W6 : W5.heap.size ≤ W6.heap.size := b_q.size
  replace O_p := Lib.hid (O_p.out.below b_q)
  replace B := Lib.hid (B.out.next b_q)
  clear o_q b_q
  have h_q : n_q ≤ 4 := by rw [← L_q.out]; exact pl.out
  go_wp2
  refine .inl ⟨rfl, rfl, ?_⟩
  try dsimp only
  cases hc : Fp.tcan k v
  · skip
    refine Lift.KW.stmts 0 (d := d5) (y := y5_1) (z := d6) rL (by kernel_rfl) (by kernel_rfl) (by kernel_rfl) fun τ => ?_
    simp only [y5_1, Lift.takeS, d5, Lift.dropS, bL, Try.f3, Option.getD_some]
    obtain ⟨W7, hV⟩ : ∃ V, Lift.re W6 τ 0 = V := ⟨_, rfl⟩
    rw [hV]
    replace B := Lib.hid (B.out.at hV)
    have Z_W7 : W6.heap.size ≤ W7.heap.size := by rw [← hV]; exact Nat.le_refl _
    replace O_p := Lib.hid (Lift.own_at O_p.out hV)
    replace O_q := Lib.hid (Lift.own_at O_q.out hV)
    clear hV
    go_wp2_with fail
    refine (laws_loInts _ _ _ _ _ _ _ _ _ O_q.out.sl O_p.out.sl (by omega) (by omega)).mono ?_
    rintro e W8 hd
    obtain ⟨rfl, b_d⟩ := hd.below
    have Z_W8 : W7.heap.size ≤ W8.heap.size := b_d.size
    clear hd
    replace O_p := Lib.hid (O_p.out.below b_d)
    replace O_q := Lib.hid (O_q.out.below b_d)
    replace B := Lib.hid (B.out.next b_d)
    clear b_d
    go_wp2_with fail
    refine (laws_loInts _ _ _ _ _ _ _ _ _ O_q.out.sl O_p.out.sl (by omega) (by omega)).mono ?_
    rintro e W9 hd
    obtain ⟨rfl, b_d⟩ := hd.below
    have Z_W9 : W8.heap.size ≤ W9.heap.size := b_d.size
    clear hd
    replace O_p := Lib.hid (O_p.out.below b_d)
    replace O_q := Lib.hid (O_q.out.below b_d)
    replace B := Lib.hid (B.out.next b_d)
    clear b_d
    go_wp2
    exact .inr ⟨rfl, rfl, .inr rfl, rfl, _, _, Try.func3, by kernel_rfl, rfl, B.out⟩
  · skip
    obtain ⟨o, ho⟩ : ∃ o : Nat, (len1 : Int) % 2 = (o : Int) := ⟨len1 % 2, by omega⟩
    have o2 : o < 2 := by omega
    have hc2 := can_bit hc o2
    have hf := enc_fit hc hc2
    have EB : Hid (∀ i, i < Fp.tlen k → (Fp.tmk k v).getD i 0 = 0 ∨ (Fp.tmk k v).getD i 0 = 1) := fun i hi => enc_bit hc hi
    have EC : Hid (∀ i, i < Fp.tlen k → (Fp.tmk k (o : Int)).getD i 0 = 0 ∨ (Fp.tmk k (o : Int)).getD i 0 = 1) := fun i hi => enc_bit hc2 hi
    have l1 := Fp.tmk_len_yes hc
    have l2 := Fp.tmk_len_yes hc2
    have AS := Lib.hid (fun (t : Nat) (ht : t < Fp.tlen k) => Lift.add_at (t := t) hf (by rw [l1]; exact ht))
    have NQ : Hid (n_q = Fp.tlen k) := by show _ = _; rw [← L_q.out]; exact l1
    have AL : Hid ((Lift.add (Fp.tmk k v) (Fp.tmk k (o : Int))).length = Fp.tlen k) := by show _ = _; rw [Lift.add_size hf]; exact l1
    have L2 := Lib.hid l2
    clear l1 l2
    refine Lift.KW.stmts 1 (d := d5) (y := y5_2) (z := d7) rL (by kernel_rfl) (by kernel_rfl) (by kernel_rfl) fun τ => ?_
    simp only [y5_2, Lift.takeS, d5, Lift.dropS, bL, Try.f3, Option.getD_some]
    obtain ⟨W10, hV⟩ : ∃ V, Lift.re W6 τ 0 = V := ⟨_, rfl⟩
    rw [hV]
    replace B := Lib.hid (B.out.at hV)
    have Z_W10 : W6.heap.size ≤ W10.heap.size := by rw [← hV]; exact Nat.le_refl _
    replace O_p := Lib.hid (Lift.own_at O_p.out hV)
    replace O_q := Lib.hid (Lift.own_at O_q.out hV)
    clear hV
    go_wp2_with fail
    refine (laws_loInts _ _ _ _ _ _ _ _ _ O_q.out.sl O_p.out.sl (by omega) (by omega)).mono ?_
    rintro e W11 hd
    obtain ⟨rfl, b_d⟩ := hd.below
    have Z_W11 : W10.heap.size ≤ W11.heap.size := b_d.size
    clear hd
    replace O_p := Lib.hid (O_p.out.below b_d)
    replace O_q := Lib.hid (O_q.out.below b_d)
    replace B := Lib.hid (B.out.next b_d)
    clear b_d
    go_wp2_with fail
    refine (impl_TypeMake _ _ _).mono ?_
    rintro e W12 ⟨a_r, n_r, c_r, rfl, o_r, b_r⟩
    have O_r := Lib.hid o_r
    have L_r := Lib.hid o_r.len
    have Z_W12 : W11.heap.size ≤ W12.heap.size := b_r.size
    replace O_p := Lib.hid (O_p.out.below b_r)
    replace O_q := Lib.hid (O_q.out.below b_r)
    replace B := Lib.hid (B.out.next b_r)
    clear o_r b_r
    have NR : Hid (n_r = Fp.tlen k) := by show _ = _; rw [← L_r.out]; exact L2.out
    go_wp2
    clear ho
    refine .inl ⟨rfl, rfl, ?_⟩
    try dsimp only
    refine Lift.KW.callS (id := 9) (d := d7) (z := d8) (m1 := p7) (m2 := q7) (o := o7) (f := 8) (args := fun a => #[a.eval (.tmp 72), a.eval (.tmp 73)]) (by kernel_rfl) (by kernel_rfl) (by kernel_rfl) (fun ys => by kernel_rfl) (fun tm w => by kernel_rfl) fun τ => ?_
    simp only [p7, q7, o7, Lift.opsS, d7, Lift.dropS, bL, Try.f3, Option.getD_some, List.take_succ_cons, List.take_zero, List.drop_succ_cons, List.drop_zero, List.getD_cons_succ, List.getD_cons_zero, List.cons_append, List.nil_append]
    obtain ⟨W13, hV⟩ : ∃ V, Lift.re W12 τ 0 = V := ⟨_, rfl⟩
    rw [hV]
    replace B := Lib.hid (B.out.at hV)
    have Z_W13 : W12.heap.size ≤ W13.heap.size := by rw [← hV]; exact Nat.le_refl _
    replace O_p := Lib.hid (Lift.own_at O_p.out hV)
    replace O_q := Lib.hid (Lift.own_at O_q.out hV)
    replace O_r := Lib.hid (Lift.own_at O_r.out hV)
    clear hV
    go_wp2
    try refine ⟨rfl, rfl, ?_⟩
    refine (Lift.sum_k hf rfl B.out.size O_q.out.sl O_r.out.sl O_q.out.le O_r.out.le).mono ?_
    rintro r W14 ⟨a_s, n_s, c_s, rfl, o_s, b_k⟩ τ
    have Z_W14 : W13.heap.size ≤ W14.heap.size := b_k.size
    have O_s := Lib.hid o_s
    have L_s := Lib.hid o_s.len
    replace O_p := Lib.hid (Lift.own_blw O_p.out b_k)
    replace O_q := Lib.hid (Lift.own_blw O_q.out b_k)
    replace O_r := Lib.hid (Lift.own_blw O_r.out b_k)
    replace B := Lib.hid (B.out.trans (b_k.mono B.out.size))
    clear b_k o_s
    obtain ⟨W15, hV⟩ : ∃ V, Lift.re W14 τ 0 = V := ⟨_, rfl⟩
    rw [hV]
    replace B := Lib.hid (B.out.at hV)
    have Z_W15 : W14.heap.size ≤ W15.heap.size := by rw [← hV]; exact Nat.le_refl _
    replace O_p := Lib.hid (Lift.own_at O_p.out hV)
    replace O_q := Lib.hid (Lift.own_at O_q.out hV)
    replace O_r := Lib.hid (Lift.own_at O_r.out hV)
    replace O_s := Lib.hid (Lift.own_at O_s.out hV)
    clear hV
    go_wp2
    try refine ⟨rfl, rfl, ?_⟩
    try dsimp only
    have NS : Hid (n_s = Fp.tlen k) := by show _ = _; rw [← L_s.out]; exact AL.out
    have h_s : n_s ≤ 4 := by rw [NS.out]; exact Fp.tlen_le k
    refine Lift.KW.last (d := d8) rL (by kernel_rfl) fun τ => ?_
    simp only [d8, Lift.dropS, bL, Try.f3, Option.getD_some]
    obtain ⟨W16, hV⟩ : ∃ V, Lift.re W15 τ 0 = V := ⟨_, rfl⟩
    rw [hV]
    replace B := Lib.hid (B.out.at hV)
    have Z_W16 : W15.heap.size ≤ W16.heap.size := by rw [← hV]; exact Nat.le_refl _
    replace O_p := Lib.hid (Lift.own_at O_p.out hV)
    replace O_q := Lib.hid (Lift.own_at O_q.out hV)
    replace O_r := Lib.hid (Lift.own_at O_r.out hV)
    replace O_s := Lib.hid (Lift.own_at O_s.out hV)
    clear hV
    go_wp2
    go_loop [15] (fun i => ∃ (j : Nat), j ≤ n_s ∧ i = .int .i64 j) (fun i => n_s - (intOf i).toNat)
    case atStart => exact ⟨0, by omega, rfl⟩
    case round =>
      obtain ⟨j, hj, rfl⟩ := hrel
      by_cases hlt : j < n_s
      · have ht : j < Fp.tlen k := by rw [← NS.out]; exact hlt
        obtain ⟨b1, f1, x, rfl, hc1, X⟩ := O_q.out.sl.get (k := j) (by rw [NQ.out]; exact ht)
        obtain ⟨b2, f2, y, rfl, hc2, Y⟩ := O_r.out.sl.get (k := j) (by rw [NR.out]; exact ht)
        obtain ⟨b3, f3, z, rfl, hc3, Z⟩ := O_s.out.sl.get (k := j) hlt
        have hx := EB.out j ht
        have hy := EC.out j ht
        have hz := AS.out j ht
        rw [← X.out] at hx hz
        rw [← Y.out] at hy hz
        rw [← Z.out] at hz
        have jq : j < n_q := by rw [NQ.out]; exact ht
        have jr : j < n_r := by rw [NR.out]; exact ht
        clear X Y Z ht
        rcases hx with rfl | rfl
        · rcases hy with rfl | rfl
          · have e : z = 0 := by rw [hz]; rfl
            subst e
            clear hz
            go_wp2
            go_round
            case rel => exact ⟨j + 1, by omega, by go_num⟩
            case measure => simp [intOf]; omega
          · have e : z = 1 := by rw [hz]; rfl
            subst e
            clear hz
            go_wp2
            go_round
            case rel => exact ⟨j + 1, by omega, by go_num⟩
            case measure => simp [intOf]; omega
        · rcases hy with rfl | rfl
          · have e : z = 1 := by rw [hz]; rfl
            subst e
            clear hz
            go_wp2
            go_round
            case rel => exact ⟨j + 1, by omega, by go_num⟩
            case measure => simp [intOf]; omega
          · have e : z = 2 := by rw [hz]; rfl
            subst e
            clear hz
            go_wp2
            go_round
            case rel => exact ⟨j + 1, by omega, by go_num⟩
            case measure => simp [intOf]; omega
      · have e : j = n_s := by omega
        subst e
        go_wp2
        exact .inr ⟨rfl, rfl, .inr rfl, rfl, _, _, Try.func3, by kernel_rfl, rfl, B.out⟩

/-! ### THE ROW's STEP: WRITTEN OUT: LEAVE IT -/
set_option maxRecDepth 100000 in
theorem lifted (os : Os) (started : os.Started) (H : Type) (enc : TypeId × Value → H) :
    ReturnsInLeavingWide {} Try.checked os 3 .any (Rows.fnTypeSumSpec.pre6 enc Try.prog Try.f3 Rows.fnTypeSumRow.domain false) (Rows.fnTypeSumSpec.post enc Try.prog Try.f3 false true false false) := by
  refine returnsInLeavingWide_of_change_sized (C := Try.checked) own started Try.func3
    (ChangeSpec.witness6 (enc := enc) (C := Try.checked) false ⟨#[], #[.slice none 0 0, .slice none 0 0], []⟩ 8 (by kernel_rfl) (by kernel_rfl) (by kernel_rfl) (by kernel_rfl)) ?_
  intro W base args ds gs before hval0 hW hcnd _ _
  have hval : ∀ (j : Nat) t v, Try.f3.params[j]? = some t → args[j]? = some v → Value.okWide Try.prog W .any base t v := hval0
  have hW' := hW
  obtain ⟨p, q, hA0, hV, rfl, hfz, hnd⟩ := hW
  have hA : DataW.TrodAll enc Try.prog W 0 (fun _ => true) true Try.f3.params.toList args.toList ds p := hA0
  rw [Try.params3] at hA hval
  obtain ⟨v0, vs0, d0, ds0, p0, q0, hargs, rfl, rfl, h0, r0⟩ := trodAll_cons hA
  obtain ⟨v1, vs1, d1, ds1, p1, q1, rfl, rfl, rfl, h1, r1⟩ := trodAll_cons r0
  obtain ⟨rfl, rfl, rfl⟩ := trodAll_nil r1
  obtain rfl : args = #[v0, v1] := by cases args; simp_all
  obtain ⟨rfl, rfl⟩ := trodVars_none hV
  obtain ⟨a0, len0, cap0, rfl⟩ := okWide_slice Try.underlying22 (hval 0 22 v0 rfl rfl)
  have k0 := h0
  have lt0 : ∀ x ∈ p0, x.block < W.heap.size := by obtain ⟨m, hm⟩ := k0; exact DataW.trod_lt m _ _ _ hm
  obtain ⟨z0, w0⟩ : ∃ zs, IsRow .u8 W a0 len0 cap0 zs := by
    obtain ⟨fuel, hf⟩ := h0
    rcases open_ints Try.underlying22 Try.underlying5 (by kernel_rfl) hf with ⟨hcs, _⟩ | ⟨x, l, c, zs, hcs, _, hl, hm, hz, _, hcell, hwz⟩
    · simp [Value.cells] at hcs
      obtain ⟨rfl, rfl, rfl⟩ := hcs
      exact ⟨[], .inl ⟨rfl, rfl, rfl, rfl⟩⟩
    · simp [Value.cells] at hcs
      obtain ⟨rfl, rfl, rfl⟩ := hcs
      exact ⟨zs, .inr ⟨_, rfl, hl, hm, by simpa using hz, hcell, hwz⟩⟩
  obtain ⟨a1, len1, cap1, rfl⟩ := okWide_slice Try.underlying22 (hval 1 22 v1 rfl rfl)
  have k1 := h1
  have lt1 : ∀ x ∈ p1, x.block < W.heap.size := by obtain ⟨m, hm⟩ := k1; exact DataW.trod_lt m _ _ _ hm
  obtain ⟨z1, w1⟩ : ∃ zs, IsRow .u8 W a1 len1 cap1 zs := by
    obtain ⟨fuel, hf⟩ := h1
    rcases open_ints Try.underlying22 Try.underlying5 (by kernel_rfl) hf with ⟨hcs, _⟩ | ⟨x, l, c, zs, hcs, _, hl, hm, hz, _, hcell, hwz⟩
    · simp [Value.cells] at hcs
      obtain ⟨rfl, rfl, rfl⟩ := hcs
      exact ⟨[], .inl ⟨rfl, rfl, rfl, rfl⟩⟩
    · simp [Value.cells] at hcs
      obtain ⟨rfl, rfl, rfl⟩ := hcs
      exact ⟨zs, .inr ⟨_, rfl, hl, hm, by simpa using hz, hcell, hwz⟩⟩
  clear hA0 hval0
  obtain ⟨M, last, o, w', t', g1, g2, g3, g4⟩ := Lift.K.done (walk a0 len0 cap0 z0 a1 len1 cap1 z1 W w0 w1)
  refine ⟨M, last, o, w', t', g1, g2, g3, g4.mono fun v hp => ?_⟩
  obtain ⟨rfl, bel0⟩ := hp
  have bel := bel0.below
  exact ⟨_, _, _, [], _, [], hW', trodAll_mk1 (shut_bool Try.underlying4 _), DataW.TrodAll.of_heap (w := Lift.re w' W.tape w'.drawn) (w' := w') rfl (trodAll_cons_mk (Below.trod laidOut (by kernel_rfl) (of_decide_eq_true (by kernel_rfl)) k0 bel lt0) (trodAll_cons_mk (Below.trod laidOut (by kernel_rfl) (of_decide_eq_true (by kernel_rfl)) k1 bel lt1) trodAll_mk0)), rfl, bel0.frame _, fun h => by cases h⟩

theorem over : Rows.fnTypeSumRow.holds Try.pinned (OpenSpec.ofChange Rows.fnTypeSumSpec) :=
  OpenClaim.holds_of_wide_leaving 3 Try.f3 rfl rfl rfl rfl rfl rfl rfl ⟨rfl, rfl, rfl, rfl, rfl⟩ rfl rfl rfl rfl rfl (by kernel_rfl) Try.func3 (by kernel_rfl)
    (of_decide_eq_true (by kernel_rfl)) (by unfold Func.isWrapper; first | (rw [if_pos (by decide +kernel)]; kernel_rfl) | (rw [if_neg (by decide +kernel)]; exact ⟨rfl, rfl⟩))
    (fun os started H enc _ => lifted os started H enc)

/-- ████ THE STATEMENT ████ -/
theorem proved : Rows.FnTypeSumSaid := over
#print axioms proved
end Go.Proofs.Ytlpfogkfjjbklac.fnTypeSum
