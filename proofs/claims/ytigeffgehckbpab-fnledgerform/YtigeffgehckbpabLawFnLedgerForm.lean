/-
  What was paid without the last is no more than may be, and where nothing may be paid only nothing can be: the law FnLedgerForm returns true for every code.
  Conditions: none but the statement's own. Proved: Rows.FnLedgerFormSaid.
-/
import Derived.Test.YtigeffgehckbpabRows
import Derived.WalkKit
import Derived.ProofKit
import Derived.OpenShut
import Derived.ShutString
import Derived.ChangeOld
import Derived.Below
import Derived.Test.YtigeffgehckbpabFp
import Derived.Test.YtigeffgehckbpabBase
import Derived.Test.YtigeffgehckbpabField
import Derived.Test.YtigeffgehckbpabSl
import Derived.Test.YtigeffgehckbpabTri
import Derived.Test.YtigeffgehckbpabFr
import Derived.Test.YtigeffgehckbpabFrl
import Derived.Test.YtigeffgehckbpabFrc
import Derived.Test.YtigeffgehckbpabFrd
import Derived.Test.YtigeffgehckbpabFre
import Derived.Test.YtigeffgehckbpabFrf
import Derived.Test.YtigeffgehckbpabDraw
import Derived.Test.YtigeffgehckbpabFrg
import Derived.Test.YtigeffgehckbpabLg
import Derived.Test.YtigeffgehckbpabFs
import Derived.Test.YtigeffgehckbpabCat
import Derived.Test.YtigeffgehckbpabLed
import Derived.Test.YtigeffgehckbpabRev
import Derived.Test.YtigeffgehckbpabLee
import Derived.Test.YtigeffgehckbpabLef
import Derived.Test.YtigeffgehckbpabLeg
import Derived.Test.YtigeffgehckbpabLeh
import Derived.Test.YtigeffgehckbpabLei
import Derived.Test.YtigeffgehckbpabLgm
import Derived.Test.YtigeffgehckbpabLej
import Derived.Test.YtigeffgehckbpabLek
import Derived.Test.YtigeffgehckbpabLem
import Derived.Test.YtigeffgehckbpabLen
namespace Go.Proofs.Ytigeffgehckbpab.fnLedgerForm
open Go.ChangeShapes Go.WideShapes Go.ChangeAt Go.RowKit
open Go.ChangeMaps (open_string shut_string)
set_option linter.unusedVariables false
set_option linter.unusedSimpArgs false

theorem own : ownKnob Try.prog.godebug = none := by kernel_rfl
theorem laidOut : laidOutB Try.prog = true := by kernel_rfl

theorem rg_call {W0 W W' : World} {p1 p2 p3 p4 p5 p6 p7 : Addr} {x1 x2 x3 x4 x5 x6 x7 : Value} (h : Hid (Below W0.heap.size W0 W) ∧ W.cell? p1 = some x1 ∧ W.cell? p2 = some x2 ∧ W.cell? p3 = some x3 ∧ W.cell? p4 = some x4 ∧ W.cell? p5 = some x5 ∧ W.cell? p6 = some x6 ∧ W.cell? p7 = some x7) (k : Below W.heap.size W W') :
    Hid (Below W0.heap.size W0 W') ∧ W'.cell? p1 = some x1 ∧ W'.cell? p2 = some x2 ∧ W'.cell? p3 = some x3 ∧ W'.cell? p4 = some x4 ∧ W'.cell? p5 = some x5 ∧ W'.cell? p6 = some x6 ∧ W'.cell? p7 = some x7 := by
  obtain ⟨h0, h1, h2, h3, h4, h5, h6, h7⟩ := h
  exact ⟨Lib.hid (h0.out.trans (k.mono h0.out.size)), cell_later k h1, cell_later k h2, cell_later k h3, cell_later k h4, cell_later k h5, cell_later k h6, cell_later k h7⟩
theorem rg_b {W0 W : World} {p1 p2 p3 p4 p5 p6 p7 : Addr} {x1 x2 x3 x4 x5 x6 x7 : Value} (h : Hid (Below W0.heap.size W0 W) ∧ W.cell? p1 = some x1 ∧ W.cell? p2 = some x2 ∧ W.cell? p3 = some x3 ∧ W.cell? p4 = some x4 ∧ W.cell? p5 = some x5 ∧ W.cell? p6 = some x6 ∧ W.cell? p7 = some x7) : Below W0.heap.size W0 W := h.1.out
theorem sf_take {w : World} {a : Option Addr} {j : Nat} {fs : List (Int × Int)} (h : Sf w a (j + 1) fs) : Sf w a j (fs.take j) := by
  refine ⟨by rw [List.length_take, h.len]; omega, ?_⟩
  rw [flat_take]
  have := h.row.cut (m := 2 * j) (by omega)
  exact this
theorem good_init {c d : Int} {fs : List (Int × Int)} {j : Nat} (hl : fs.length = j + 1) (h : Fr.good c d fs = true) : Fr.good c d (fs.take j) = true := by
  have e : fs = fs.take j ++ fs.drop j := (List.take_append_drop j fs).symm
  rw [Fr.good_is] at h
  simp only [Bool.and_eq_true, decide_eq_true_eq] at h
  obtain ⟨⟨⟨h1, h2⟩, h3⟩, h4⟩ := h
  obtain ⟨T, hT⟩ : ∃ T, Fr.tot (0, 1) fs = some T := by
    cases h_ : Fr.tot (0, 1) fs with
    | some T => exact ⟨T, rfl⟩
    | none => rw [(Fr.t_none h_).1] at h3; cases h3
  rw [(Fr.t_some hT).2] at h4
  rw [e, Fr.tot_app] at hT
  cases hP : Fr.tot (0, 1) (fs.take j) with
  | none => rw [hP] at hT; cases hT
  | some P =>
    rw [hP] at hT
    have hT' : Fr.tot P (fs.drop j) = some T := hT
    obtain ⟨p1, p2⟩ := Fr.t_some hP
    have po : Fr.ok P.1 P.2 = true := by have := Fr.t_ok p1; rwa [p2] at this
    obtain ⟨t_o, l_t⟩ := Fr.tot_ok po hT'
    rw [Fr.good_is]
    simp only [Bool.and_eq_true, decide_eq_true_eq]
    refine ⟨⟨⟨h1, by rw [List.length_take]; omega⟩, p1⟩, ?_⟩
    rw [p2]
    exact (Fr.cmp_le po h1).2 (Fr.le_trans' po t_o h1 l_t ((Fr.cmp_le t_o h1).1 h4))
theorem none_good {c d : Int} {fs : List (Int × Int)} (h : Fr.good c d fs = true) : Fr.good 0 1 fs = ((Fr.total c d fs).1 == 0) := by
  obtain ⟨k1, k2, k3, k4⟩ := Fr.tot_good h
  obtain ⟨et, eb⟩ := Fr.total_is h
  rw [et] at k1 ⊢
  rw [Fr.good_is, eb, Bool.eq_iff_iff]
  simp only [Bool.and_eq_true, decide_eq_true_eq, beq_iff_eq, Fr.ok01, true_and, and_true]
  obtain ⟨a, b, ea, eb', -, hb, -, -⟩ := Fr.ok_nat k1
  rw [Fr.cmp_le k1 Fr.ok01]
  unfold Fr.le
  rw [ea, eb']
  constructor
  · rintro ⟨-, h3⟩; omega
  · intro h3; exact ⟨k4, by rw [h3]; omega⟩
set_option maxHeartbeats 1000000 in
set_option maxRecDepth 100000 in
theorem walk (a0 : Option Addr) (len0 cap0 : Nat) (z0 : List Int) (w : World) (w0 : IsRow .u8 w a0 len0 cap0 z0) :
    Calls Try.prog 8 #[.slice a0 len0 cap0] w fun e w' => e = .returned (.bool true) ∧ Below w.heap.size w w' := by
  obtain ⟨c1, c2⟩ := w0.sizes
  have Hb := Lib.hid (Bys.of_row w0)
  clear w0
  by_cases hl : 1048576 < len0
  · go_enter Try.func8, Try.ntmps8
    go_wp2
    go_ret
    exact ⟨rfl, Below.refl _ _⟩
  go_enter Try.func8, Try.ntmps8
  have B := Lib.hid (Below.refl w.heap.size w)
  go_wp2_with fail
  refine (spec_DrawLedgerOk a0 len0 cap0 w Hb.out c1 c2).mono ?_
  rintro e v1 ⟨c, d, al, nl, kl, fs, hn, rfl, ol, b_⟩
  have ll := Lib.hid ol.len
  have lk := ol.le
  clear c1 c2 Hb
  replace B := Lib.hid (B.out.trans (b_.mono B.out.size))
  clear b_
  have S_l := Lib.hid ol.sf
  clear ol
  obtain ⟨v2, hw_v2, z_, b_, t_⟩ := led_box v1 c d al nl kl 27
  replace S_l := Lib.hid (S_l.out.below b_)
  replace B := Lib.hid (B.out.trans (b_.mono B.out.size))
  have T_l := Lib.hid t_
  clear z_ b_ t_
  have m1 : (Fr.good c d fs != Fr.good c d fs) = false := by simp
  have m2 : (Fr.good c d fs == Fr.good c d fs) = true := by simp
  obtain ⟨l_0, l_1, l_2, -, -, -⟩ := led_at T_l.out
  go_wp2_with fail
  refine (impl_LedgerOk c d al nl kl fs _ S_l.out (by omega)).mono ?_
  rintro e v3 ⟨rfl, b_⟩
  clear l_0 l_1 l_2 hw_v2
  replace T_l := Lib.hid (tri_moreB T_l.out b_)
  replace S_l := Lib.hid (S_l.out.below b_)
  replace B := Lib.hid (B.out.trans (b_.mono B.out.size))
  clear b_
  obtain ⟨l_0, l_1, l_2, -, -, -⟩ := led_at T_l.out
  go_wp2_with fail
  refine (spec_LedgerOk c d al nl kl fs _ S_l.out (by omega)).mono ?_
  rintro e v4 ⟨rfl, b_⟩
  clear l_0 l_1 l_2
  replace T_l := Lib.hid (tri_moreB T_l.out b_)
  replace S_l := Lib.hid (S_l.out.below b_)
  replace B := Lib.hid (B.out.trans (b_.mono B.out.size))
  clear b_
  cases hg : Fr.good c d fs
  · rw [hg] at m1 m2
    obtain ⟨l_0, l_1, l_2, -, -, -⟩ := led_at T_l.out
    go_wp2_with fail
    refine (spec_LedgerOk c d al nl kl fs _ S_l.out (by omega)).mono ?_
    rintro e v5 ⟨rfl, b_⟩
    rw [hg]
    clear l_0 l_1 l_2
    replace T_l := Lib.hid (tri_moreB T_l.out b_)
    replace S_l := Lib.hid (S_l.out.below b_)
    replace B := Lib.hid (B.out.trans (b_.mono B.out.size))
    clear b_
    obtain ⟨l_0, l_1, l_2, -, -, -⟩ := led_at T_l.out
    go_wp2
    go_ret
    exact ⟨rfl, B.out⟩
  rw [hg] at m1 m2
  by_cases n0 : nl = 0
  · subst n0
    obtain ⟨l_0, l_1, l_2, -, -, -⟩ := led_at T_l.out
    go_wp2_with fail
    refine (spec_LedgerOk c d al 0 kl fs _ S_l.out (by omega)).mono ?_
    rintro e v5 ⟨rfl, b_⟩
    rw [hg]
    clear l_0 l_1 l_2
    replace T_l := Lib.hid (tri_moreB T_l.out b_)
    replace S_l := Lib.hid (S_l.out.below b_)
    replace B := Lib.hid (B.out.trans (b_.mono B.out.size))
    clear b_
    obtain ⟨l_0, l_1, l_2, -, -, -⟩ := led_at T_l.out
    go_wp2
    go_ret
    exact ⟨rfl, B.out⟩
  obtain ⟨j, rfl⟩ : ∃ j, nl = j + 1 := ⟨nl - 1, by omega⟩
  have HG := Lib.hid hg
  have GI := Lib.hid (good_init (j := j) ll.out hg)
  have NG := Lib.hid (none_good hg)
  have S_j := Lib.hid (sf_take S_l.out)
  have n1 : ¬ ((j + 1 : Nat) : Int) = 0 := by omega
  have e1_ : ((j + 1 : Nat) : Int) = (j : Int) + 1 := by push_cast; rfl
  have f1 : IntKind.i64.wrap ((j : Int) + 1 - 1) = (j : Int) := by rw [Int.add_sub_cancel]; exact IntWalk.i64_in _ (by omega)
  have fj : IntKind.i64.wrap (j : Int) = (j : Int) := IntWalk.i64_in _ (by omega)
  have j0 : (0 : Int) ≤ (j : Int) := by omega
  have jk : (j : Int) ≤ (kl : Int) := by omega
  clear hg m1 m2 n0
  obtain ⟨l_0, l_1, l_2, -, -, -⟩ := led_at T_l.out
  obtain ⟨l_3, l_4, l_5, -, -, -⟩ := led_at (tri_drew T_l.out)
  obtain ⟨v5, hw_v5, z_, b_, t_⟩ := led_box v4 c d al j kl 27
  have L6 := led_at (tri_moreB T_l.out b_)
  obtain ⟨l_6, l_7, l_8, -, -, -⟩ := L6
  obtain ⟨l_9, l_a, l_b, -, -, -⟩ := led_at (tri_drew (tri_moreB T_l.out (bel_box v4 (Obj.cells #[.int .i64 0, .int .i64 0, .slice none 0 0] 27))))
  go_wp2
  go_region_law (fail)
  all_goals
    have T_k := Lib.hid (tri_drew t_)
    replace T_l := Lib.hid (tri_drew (tri_moreB T_l.out b_))
    replace S_l := Lib.hid ((S_l.out.below b_).drewN 1)
    replace S_j := Lib.hid ((S_j.out.below b_).drewN 1)
    replace B := Lib.hid (B.out.trans (b_.mono B.out.size)).drew
    have k_ := hw_v5
    clear k_ l_0 l_1 l_2 l_3 l_4 l_5 l_6 l_7 l_8 l_9 l_a l_b hw_v5 z_ b_ t_
    obtain ⟨v6, e_X⟩ : ∃ X, v5.drew = X := ⟨_, rfl⟩
    have S_l1 := S_l.out
    have S_j1 := S_j.out
    have T_l1 := T_l.out
    have T_k1 := T_k.out
    have B1 := B.out
    change Sf v5.drew _ _ _ at S_l1
    change Sf v5.drew _ _ _ at S_j1
    rw [e_X] at S_l1 S_j1 T_l1 T_k1 B1 ⊢
    replace S_l := Lib.hid S_l1
    replace S_j := Lib.hid S_j1
    replace T_l := Lib.hid T_l1
    replace T_k := Lib.hid T_k1
    replace B := Lib.hid B1
    clear S_l1 S_j1 T_l1 T_k1 B1 e_X
    obtain ⟨l_0, l_1, l_2, -, -, -⟩ := led_at T_l.out
    obtain ⟨k_0, k_1, k_2, -, -, -⟩ := led_at T_k.out
    go_wp2_with fail
    refine (impl_LedgerSum c d al (j + 1) kl fs _ S_l.out (by omega)).mono ?_
    rintro e v7 ⟨rfl, b_⟩
    rw [HG.out]
    clear l_0 l_1 l_2 k_0 k_1 k_2
    replace T_l := Lib.hid (tri_moreB T_l.out b_)
    replace T_k := Lib.hid (tri_moreB T_k.out b_)
    replace S_l := Lib.hid (S_l.out.below b_)
    replace S_j := Lib.hid (S_j.out.below b_)
    replace B := Lib.hid (B.out.trans (b_.mono B.out.size))
    clear b_
    obtain ⟨v8, hw_v8, z_, b_, t_⟩ := duo_box v7 (Fr.total c d fs).1 (Fr.total c d fs).2 24
    replace T_l := Lib.hid (tri_moreB T_l.out b_)
    replace T_k := Lib.hid (tri_moreB T_k.out b_)
    replace S_l := Lib.hid (S_l.out.below b_)
    replace S_j := Lib.hid (S_j.out.below b_)
    replace B := Lib.hid (B.out.trans (b_.mono B.out.size))
    have T_s := Lib.hid t_
    clear z_ b_ t_
    obtain ⟨lz_0, lz_1, lz_2, -, -, -⟩ := led_at T_l.out
    obtain ⟨v9, hw_v9, z_, b_, t_⟩ := led_box v8 0 1 al (j + 1) kl 27
    replace T_l := Lib.hid (tri_moreB T_l.out b_)
    replace T_k := Lib.hid (tri_moreB T_k.out b_)
    replace T_s := Lib.hid (tri_moreB T_s.out b_)
    replace S_l := Lib.hid (S_l.out.below b_)
    replace S_j := Lib.hid (S_j.out.below b_)
    replace B := Lib.hid (B.out.trans (b_.mono B.out.size))
    have T_n := Lib.hid t_
    clear z_ b_ t_
    obtain ⟨l_0, l_1, l_2, -, -, -⟩ := led_at T_l.out
    obtain ⟨k_0, k_1, k_2, -, -, -⟩ := led_at T_k.out
    obtain ⟨s_0, s_1, -, -⟩ := duo_at T_s.out
    obtain ⟨n_0, n_1, n_2, -, -, -⟩ := led_at T_n.out
    have m9 : (((Fr.total c d fs).1 == 0) == ((Fr.total c d fs).1 == 0)) = true := by simp
    have S1 := Lib.hid (show Hid (Below v9.heap.size v9 v9.drew) ∧ v9.drew.cell? ⟨v4.heap.size, 0, none⟩ = some (.int .i64 c) ∧ v9.drew.cell? ⟨v4.heap.size, 1, none⟩ = some (.int .i64 d) ∧ v9.drew.cell? ⟨v4.heap.size, 2, none⟩ = some (.slice al j kl) ∧ v9.drew.cell? ⟨v8.heap.size, 0, none⟩ = some (.int .i64 0) ∧ v9.drew.cell? ⟨v8.heap.size, 1, none⟩ = some (.int .i64 1) ∧ v9.drew.cell? ⟨v8.heap.size, 2, none⟩ = some (.slice al (j + 1) kl) ∧ v9.drew.cell? ⟨v7.heap.size, 0, none⟩ = some (.int .i64 (Fr.total c d fs).1) from ⟨Lib.hid (Below.refl _ _).drew, k_0, k_1, k_2, n_0, n_1, n_2, s_0⟩)
    go_wp2_with fail
    go_region_held3 (fun w' : World => Hid (Below v9.heap.size v9 w') ∧ w'.cell? ⟨v4.heap.size, 0, none⟩ = some (.int .i64 c) ∧ w'.cell? ⟨v4.heap.size, 1, none⟩ = some (.int .i64 d) ∧ w'.cell? ⟨v4.heap.size, 2, none⟩ = some (.slice al j kl) ∧ w'.cell? ⟨v8.heap.size, 0, none⟩ = some (.int .i64 0) ∧ w'.cell? ⟨v8.heap.size, 1, none⟩ = some (.int .i64 1) ∧ w'.cell? ⟨v8.heap.size, 2, none⟩ = some (.slice al (j + 1) kl) ∧ w'.cell? ⟨v7.heap.size, 0, none⟩ = some (.int .i64 (Fr.total c d fs).1)) (first | exact S1.out | exact rg_call (by assumption) b0_ | exact rg_call (by assumption) b1_ | assumption) (first | (go_at_call 21; have gg := b0_; clear gg; refine (impl_LedgerOk 0 1 al (j + 1) kl fs _ (S_l.out.below (rg_b (by assumption))) (by omega)).mono ?_; rintro e u1 ⟨rfl, b1_⟩; rw [NG.out]; have P1 := Lib.hid ((rg_call (W0 := v9) (by assumption) b1_).1.out)) | (go_at_call 21; refine (impl_LedgerOk c d al j kl (fs.take j) _ (S_j.out.below (rg_b (by assumption))) (by omega)).mono ?_; rintro e u0 ⟨rfl, b0_⟩; rw [GI.out]; have P0 := Lib.hid ((rg_call (W0 := v9) (by assumption) b0_).1.out)))
    all_goals
      replace B := Lib.hid (B.out.trans (P1.out.mono B.out.size))
      go_wp2
      go_ret
      exact ⟨rfl, B.out⟩

/-! ### THE ROW's STEP: WRITTEN OUT: LEAVE IT -/
set_option maxRecDepth 100000 in
theorem lifted (os : Os) (started : os.Started) (H : Type) (enc : TypeId × Value → H) :
    ReturnsInHanded {} Try.checked os 8 .any (Rows.fnLedgerFormSpec.pre6 enc Try.prog Try.f8 Rows.fnLedgerFormRow.domain false) (Rows.fnLedgerFormSpec.post enc Try.prog Try.f8 false true false false) := by
  refine returnsInHanded_of_change (C := Try.checked) own started (by kernel_rfl) Try.func8
    (ChangeSpec.witness6 (enc := enc) (C := Try.checked) false ⟨#[], #[.slice none 0 0], []⟩ 8 (by kernel_rfl) (by kernel_rfl) (by kernel_rfl) (by kernel_rfl)) ?_
  intro W base args ds gs before hval0 hW hcnd _
  have hval : ∀ (j : Nat) t v, Try.f8.params[j]? = some t → args[j]? = some v → Value.okWide Try.prog W .any base t v := hval0
  have hW' := hW
  obtain ⟨p, q, hA0, hV, rfl, hfz, hnd⟩ := hW
  have hA : DataW.TrodAll enc Try.prog W 0 (fun _ => true) true Try.f8.params.toList args.toList ds p := hA0
  rw [Try.params8] at hA hval
  obtain ⟨v0, vs0, d0, ds0, p0, q0, hargs, rfl, rfl, h0, r0⟩ := trodAll_cons hA
  obtain ⟨rfl, rfl, rfl⟩ := trodAll_nil r0
  obtain rfl : args = #[v0] := by cases args; simp_all
  obtain ⟨rfl, rfl⟩ := trodVars_none hV
  obtain ⟨a0, len0, cap0, rfl⟩ := okWide_slice Try.underlying22 (hval 0 22 v0 rfl rfl)
  have k0 := h0
  have lt0 : ∀ x ∈ p0, x.block < W.heap.size := by obtain ⟨m, hm⟩ := k0; exact DataW.trod_lt m _ _ _ hm
  obtain ⟨z0, w0⟩ : ∃ zs, IsRow .u8 W a0 len0 cap0 zs := by
    obtain ⟨fuel, hf⟩ := h0
    rcases open_ints Try.underlying22 Try.underlying5 (by kernel_rfl) hf with ⟨hcs, _⟩ | ⟨x, l, c, zs, hcs, _, hl, hm, hz, _, hcell, hwz⟩
    · simp [Value.cells] at hcs
      obtain ⟨rfl, rfl, rfl⟩ := hcs
      exact ⟨[], .inl ⟨rfl, rfl, rfl, rfl⟩⟩
    · simp [Value.cells] at hcs
      obtain ⟨rfl, rfl, rfl⟩ := hcs
      exact ⟨zs, .inr ⟨_, rfl, hl, hm, by simpa using hz, hcell, hwz⟩⟩
  clear hA0 hval0
  refine (walk a0 len0 cap0 z0 W w0).mono fun e W' ⟨he, bel⟩ => ?_
  subst he
  exact ⟨_, rfl, _, _, _, [], _, [], hW', trodAll_mk1 (shut_bool Try.underlying4 _), (trodAll_cons_mk (Below.trod laidOut (by kernel_rfl) (of_decide_eq_true (by kernel_rfl)) k0 bel lt0) trodAll_mk0), rfl, bel.frame _, fun h => by cases h⟩

theorem over : Rows.fnLedgerFormRow.holds Try.pinned (OpenSpec.ofChange Rows.fnLedgerFormSpec) :=
  OpenClaim.holds_of_wide 8 Try.f8 rfl rfl rfl rfl rfl rfl rfl ⟨rfl, rfl, rfl, rfl, rfl⟩ rfl rfl rfl rfl rfl (by kernel_rfl) Try.func8 (by kernel_rfl)
    (of_decide_eq_true (by kernel_rfl)) (by unfold Func.isWrapper; first | (rw [if_pos (by decide +kernel)]; kernel_rfl) | (rw [if_neg (by decide +kernel)]; exact ⟨rfl, rfl⟩))
    (fun os started H enc _ => lifted os started H enc)

/-- ████ THE STATEMENT ████ -/
theorem proved : Rows.FnLedgerFormSaid := over
#print axioms proved
end Go.Proofs.Ytigeffgehckbpab.fnLedgerForm
