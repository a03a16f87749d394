/-
  Chapter 3: both shares at once; of the model, and of the program in company.
-/
import Derived.Test.YtadngncbbbbapaaShk
import Derived.Test.YtadngncbbbbapaaKlaw
import Derived.Test.YtadngncbbbbapaaShs
import Derived.Laws.CopyOwn
namespace Go.Proofs.Ytadngncbbbbapaa
open Go.RowKit
set_option linter.unusedVariables false
set_option linter.unusedSimpArgs false
theorem made_block {w : World} {base g n cap : Nat} {e : TypeId} {xs : List Value} (h : w.ownsRow base e 1 (.slice (some ⟨g, 0, none⟩) n cap) n xs) : ∃ cur : List Value, w.heap[g]? = some (.cells cur.toArray e (0, 0)) ∧ cur.length = cap := by
  rcases h.2 with ⟨h, _⟩ | ⟨gg, cap', cur, hv, _, hh, _, _, hx', _⟩
  · cases h
  · injection hv with h4 _ h6
    injection h4 with h4
    injection h4 with h4
    subst h4 h6
    exact ⟨cur.toList, by simpa using hh, by simpa using hx'⟩
theorem own_whole {lo hi g : Nat} {t : TypeId} {w : World} {ys : List Int} {n : Nat} (h : w.heap[g]? = some (.cells (ys.map (Value.int .i64)).toArray t (0, 0))) (h1 : lo ≤ g) (h2 : g < hi) (hn : ys.length = n) (hm : n ≤ maxLen) : Own lo hi w (some ⟨g, 0, none⟩) n n ys := by
  subst hn
  refine ⟨rfl, Nat.le_refl _, hm, fun _ => ⟨g, 0, rfl, h1, h2, (Array.getElem?_eq_some_iff.1 h).1, fun i hi => ⟨?_, ?_⟩⟩⟩
  · simp [World.cell?, h, List.getD_eq_getElem?_getD, List.getElem?_eq_getElem hi]
  · simp [World.frozen?, h]
/-- What is kept of what was drawn. -/
def Lift.kept (xs ys : List Int) : List Int := if Fp.fit xs ys then ys else []
theorem Lift.kept_no {xs ys : List Int} (h : Fp.fit xs ys = false) : Lift.kept xs ys = [] := by simp [Lift.kept, h]
theorem Lift.kept_yes {xs ys : List Int} (h : Fp.fit xs ys = true) : Lift.kept xs ys = ys := by simp [Lift.kept, h]
theorem Lift.kept_len {xs ys : List Int} : (Lift.kept xs ys).length ≤ 20 := by
  unfold Lift.kept
  split
  · rename_i h; exact Fp.sok_len (Lift.fit_parts h).2.1
  · simp
theorem spec_ShareMake (a a' : Option Addr) (n n' cap cap' : Nat) (xs ys : List Int) (w : World) (h : Sl w a n xs) (h' : Sl w a' n' ys) (hm : n ≤ 1048576) (hm' : n' ≤ 1048576) :
    Calls Try.prog 14 #[.slice a n cap, .slice a' n' cap'] w (NewTwo (Lift.comb (fun x y => (x - y) % 31) xs ys) (Lift.kept xs ys) (Fp.fit xs ys) w) := by
  have H := Lib.hid h
  have H' := Lib.hid h'
  have L := Lib.hid h.len
  have L' := Lib.hid h'.len
  have E1 := Lib.hid (own_empty w.heap.size 3 w (Nat.le_refl _))
  have B1 := Lib.hid ((Below.refl w.heap.size w).alloc (Nat.le_refl _) (.cells #[] 3))
  have E2 := Lib.hid (own_empty (w.alloc (.cells #[] 3)).heap.size 3 (w.alloc (.cells #[] 3)) (Nat.le_refl _))
  have B2 := Lib.hid (B1.out.alloc (by simp) (.cells #[] 3))
  have fin : Hid (NewTwo [] [] false w (.returned (.tuple #[.slice (some ⟨w.heap.size, 0, none⟩) 0 0, .slice (some ⟨w.heap.size + 1, 0, none⟩) 0 0, .bool false])) ((w.alloc (.cells #[] 3)).alloc (.cells #[] 3))) :=
    ⟨w.heap.size + 1, _, _, _, _, _, _, rfl, by omega, by simp, Own.nil _ _ _ _ _ (by unfold maxLen; omega), Own.nil _ _ _ _ _ (by unfold maxLen; omega), B2.out⟩
  clear h h' E1 E2 B1 B2
  cases hf : Fp.fit xs ys
  · rw [Lift.comb_no hf, Lift.kept_no hf]
    cases e1 : Fp.sok xs
    · clear hf
      go_enter Try.func14, Try.ntmps14
      go_wp2_with (go_at_call 38; (with_reducible refine (spec_ShareOk _ _ _ xs _ H.out hm).mono ?_); rintro e w' ⟨rfl, rfl⟩)
      go_ret3
      exact fin.out
    · cases e2 : Fp.sok ys
      · clear hf
        go_enter Try.func14, Try.ntmps14
        go_wp2_with (first | (go_at_call 38; (with_reducible refine (spec_ShareOk _ _ _ xs _ H.out hm).mono ?_); rintro e w' ⟨rfl, rfl⟩) | (go_at_call 38; (with_reducible refine (spec_ShareOk _ _ _ ys _ H'.out hm').mono ?_); rintro e w' ⟨rfl, rfl⟩))
        go_ret3
        exact fin.out
      · have hb : ((n : Int) != (n' : Int)) = true := by
          have hne : n ≠ n' := fun e => by simp [Fp.fit, e1, e2, L.out, L'.out, e] at hf
          simp; omega
        clear hf
        go_enter Try.func14, Try.ntmps14
        go_wp2_with (first | (go_at_call 38; (with_reducible refine (spec_ShareOk _ _ _ xs _ H.out hm).mono ?_); rintro e w' ⟨rfl, rfl⟩) | (go_at_call 38; (with_reducible refine (spec_ShareOk _ _ _ ys _ H'.out hm').mono ?_); rintro e w' ⟨rfl, rfl⟩))
        go_ret3
        exact fin.out
  · obtain ⟨e1, e2, e3⟩ := Lift.fit_parts hf
    have E := Lib.hid (Lift.comb_dif hf)
    have N : n = n' := by rw [← L.out, ← L'.out]; exact e3
    have n20 : n ≤ 20 := by rw [← L.out]; exact Fp.sok_len e1
    rw [← E.out, L.out, Lift.kept_yes hf]
    clear hf e3 fin
    subst N
    go_enter Try.func14, Try.ntmps14
    go_wp2_with (first | (go_at_call 38; (with_reducible refine (spec_ShareOk _ _ _ xs _ H.out hm).mono ?_); rintro e w' ⟨rfl, rfl⟩) | (go_at_call 38; (with_reducible refine (spec_ShareOk _ _ _ ys _ H'.out hm').mono ?_); rintro e w' ⟨rfl, rfl⟩) | (go_at_call 39; (refine (spec_l3Dif _ _ _ _ _ _ xs ys _ H.out H'.out (Nat.le_refl _) (by omega)).mono ?_); rintro e w1 ⟨a1, n1, c1, rfl, o1, b1⟩; have S1 := Lib.hid ((H'.out.below b1).alloc (.cells #[] 3)); have E1 := Lib.hid (own_empty w1.heap.size 3 w1 (Nat.le_refl _)); have O1 := Lib.hid o1; have B1 := Lib.hid b1; clear o1 b1) | (at_builtin; (refine wpList_of_wp (by rfl) (wp_cat int_ty (.tmp 27) (.tmp 28) rfl w1.heap.size (xs := []) rfl rfl E1.out S1.out (by omega) (by simp) ?_)); intro a5 c5 w5 own5 bel5; simp only [Nat.zero_add, List.nil_append] at own5))
    have P2 := Lib.hid (((Below.refl w1.heap.size w1).alloc (Nat.le_refl _) (.cells #[] 3)).trans bel5)
    have z1 := B1.out.size
    have z2 := P2.out.size
    go_ret3
    exact ⟨w1.heap.size, _, _, _, _, _, _, rfl, z1, z2, O1.out.below P2.out, Own.of_row own5, B1.out.trans (P2.out.mono z1)⟩
namespace Lift
open Go.Conc Go.Proofs.Ytadngncbbbbapaa.Crew
/-- Two new slices, and a bool. -/
def NewK2 (xs ys : List Int) (t : Bool) (v : World) (x : Value) (v' : World) : Prop := ∃ m a n c a' n' c', x = .tuple #[.slice a n c, .slice a' n' c', .bool t] ∧ v.heap.size ≤ m ∧ m ≤ v'.heap.size ∧ Own v.heap.size m v' a n c xs ∧ Own m v'.heap.size v' a' n' c' ys ∧ Blw v.heap.size v v'
noncomputable def bM : Code := Try.f15.body.getD .skip
noncomputable def dM1 : Code := dropS 0 bM
noncomputable def dM2 : Code := dropS 1 bM
noncomputable def yM0 : Code := takeS 0 bM
noncomputable def pM : List Oper := (opsS dM1).take 2
noncomputable def oM : Oper := (opsS dM1).getD 2 default
noncomputable def qM : List Oper := (opsS dM1).drop 3
theorem hM : Try.f15.body = some bM := by kernel_rfl
theorem rM : ResOk Try.prog 15 := ⟨_, Try.func15, fun tmps => ⟨_, by simp [results, Try.f15]; rfl⟩⟩
set_option maxRecDepth 100000 in
set_option maxHeartbeats 1000000 in
theorem ShareMake_k {B : Nat} {v : World} {pa pb : Option Addr} {n m ca cb : Nat} {xs ys : List Int} (hB : B ≤ v.heap.size) (hx : Sl v pa n xs) (hy : Sl v pb m ys) (h1 : n ≤ ca) (h2 : m ≤ cb) :
    KCalls Try.prog B 15 #[.slice pa n ca, .slice pb m cb] v (NewK2 (comb (fun x y => (x - y) % 31) xs ys) (Lift.kept xs ys) (Fp.fit xs ys) v) := by
  refine KCalls.of_kw Try.func15 hM ?_
  simp only [Try.ntmps15, List.size_toArray, List.length_cons, List.length_nil, Nat.reduceAdd, Nat.reduceSub, Array.replicate_succ, Array.replicate_zero, List.push_toArray, List.append_toArray, List.nil_append, List.cons_append]
  refine KW.stmts 0 (d := bM) (y := yM0) (z := dM1) rM (by kernel_rfl) (by kernel_rfl) (by kernel_rfl) fun τ => ?_
  simp only [yM0, takeS, bM, Try.f15, Option.getD_some]
  go_wp2
  refine .inl ⟨rfl, rfl, KW.unre ?_⟩
  try dsimp only
  refine KW.callS (id := 1) (d := dM1) (z := dM2) (m1 := pM) (m2 := qM) (o := oM) (f := 40) (args := fun a => #[a.eval (.func 41), a.eval (.tmp 11), a.eval (.tmp 12)]) (by kernel_rfl) (by kernel_rfl) (by kernel_rfl) (fun ys => by kernel_rfl) (fun tm w => by kernel_rfl) fun τ => ?_
  simp only [pM, qM, oM, opsS, dM1, dropS, bM, Try.f15, Option.getD_some, List.take_succ_cons, List.take_zero, List.drop_succ_cons, List.drop_zero, List.getD_cons_succ, List.getD_cons_zero, List.cons_append, List.nil_append]
  go_wp2
  try refine ⟨rfl, rfl, ?_⟩
  refine (combine_k (v := Lift.re v τ 0) isOp_minus hB (sl_re hx τ 0) (sl_re hy τ 0) h1 h2).mono ?_
  rintro r w2 ⟨a1, n1, c1, rfl, o1, b1⟩ τ'
  go_wp2
  try refine ⟨rfl, rfl, ?_⟩
  try dsimp only
  refine KW.unre (KW.last rM (by kernel_rfl) fun τ2 => ?_)
  simp only [dM2, dropS, bM, Try.f15, Option.getD_some]
  have Y := Lib.hid (sl_re (sl_blw (sl_re hy τ 0) b1) τ2 0)
  have ly := hy.len
  have O1 := Lib.hid (own_re o1 τ2 0)
  have B1 := Lib.hid (b1.re.at (τ := τ2) (d := 0) rfl)
  have Z1 : v.heap.size ≤ w2.heap.size := b1.size
  have Z2 : (Lift.re w2 τ2 0).heap.size = w2.heap.size := rfl
  clear hx hy o1 b1 hB
  obtain ⟨W, hW⟩ : ∃ W, Lift.re w2 τ2 0 = W := ⟨_, rfl⟩
  rw [hW] at Y O1 B1 Z2 ⊢
  rw [← Z2] at Z1
  replace O1 : Hid (Own v.heap.size W.heap.size W a1 n1 c1 (comb (fun x y => (x - y) % 31) xs ys)) := by have := O1.out; rw [Z2]; exact this
  replace B1 : Hid (Blw v.heap.size v W) := B1
  clear hW Z2
  cases hf : Fp.fit xs ys
  · rw [kept_no hf]
    go_wp2
    exact .inr ⟨rfl, rfl, .inr rfl, rfl, _, .tuple #[.slice none 0 0, .slice none 0 0, .bool false], Try.func15, by kernel_rfl, v.heap.size, none, 0, 0, none, 0, 0, rfl, Nat.le_refl _, Z1, by rw [comb_no hf]; exact Own.nil _ _ _ _ _ (by unfold maxLen; omega), Own.nil _ _ _ _ _ (by unfold maxLen; omega), B1.out⟩
  · rw [kept_yes hf]
    obtain ⟨e1, e2, e3⟩ := fit_parts hf
    have m20 : m ≤ 20 := by rw [← ly]; exact Fp.sok_len e2
    obtain ⟨i0, hi0, hz0, hz1, hz2⟩ := info_parts int_info
    have I := Lib.hid (show i0.bytes * m ≤ 281474976710656 by rw [hz2]; omega)
    have M : m ≤ maxLen := by unfold maxLen; omega
    have sz1 : (Try.prog.info? 3).map (·.size) = some 1 := by kernel_rfl
    obtain ⟨cs, hcs⟩ : ∃ cs : List Value, cs = ys.map (Value.int .i64) := ⟨_, rfl⟩
    have CS := Lib.hid hcs
    have lcs : cs.length = m := by rw [hcs, List.length_map, ly]
    have onec : Hid (∀ v ∈ cs, v.oneCell' = true) := by
      intro v hv
      rw [hcs] at hv
      obtain ⟨z, _, rfl⟩ := List.mem_map.1 hv
      rfl
    have LM := Lib.hid (show cs.length = Nat.min m m by rw [lcs]; exact (Nat.min_self m).symm)
    clear hcs
    have src : ∀ w1 : World, Below W.heap.size W w1 → Hid (0 < cs.length → ∃ ad, pb = some ad ∧ ∀ j v, cs[j]? = some v → w1.cell? (ad.add j) = some v) := by
      intro w1 hb h0
      obtain ⟨b, off, e, hc⟩ := (Y.out.below hb).at_ (by omega)
      refine ⟨⟨b, off, none⟩, e, fun j u hu => ?_⟩
      have hj : j < m := by
        rcases Nat.lt_or_ge j m with h' | h'
        · exact h'
        · rw [List.getElem?_eq_none (by omega)] at hu; cases hu
      rw [Addr.add_mid, hc j hj]
      rw [CS.out, List.getElem?_map, List.getElem?_eq_getElem (by rw [ly]; exact hj)] at hu
      simp at hu
      rw [← hu, List.getD_eq_getElem?_getD, List.getElem?_eq_getElem (by rw [ly]; exact hj)]; rfl
    have SRC := Lib.hid src
    clear src
    go_wp2_with (first | (at_make; (with_reducible refine wpList_make_full _ rfl (.tmp 19) (.tmp 19) 23 rfl W.heap.size 3 i0 _ 1 Try.underlying23 hi0 hz0 hz1 .i64 .i64 _ _ m rfl rfl rfl rfl I.out M (Nat.le_refl _) ?_); intro w1 own grow; obtain ⟨cur, hcur, lcur⟩ := made_block own; have B3 := (Below.refl W.heap.size W).grown grow (Nat.le_refl _) (by simp); have S3 := SRC.out w1 B3; have HC := Lib.hid hcur; have B4 := Lib.hid B3; clear own grow hcur B3) | ((refine wpList_copy_splice rfl (.tmp 21) (.tmp 22) 23 23 rfl 3 Try.underlying23 sz1 _ _ _ _ _ _ rfl rfl W.heap.size 0 cur 3 HC.out cs LM.out (fun h0 => ⟨rfl, S3.out h0⟩) (by omega) onec.out W.heap.size W B4.out (Nat.le_refl _) ?_); intro w4 HG B5))
    have sp : splice cur 0 cs = cs := by simp [splice, lcur, lcs]
    have O4 : Own W.heap.size w4.heap.size w4 (some ⟨W.heap.size, 0, none⟩) m m ys := by
      have h5 := HG.out
      rw [sp, CS.out] at h5
      exact own_whole h5 (Nat.le_refl _) (Array.getElem?_eq_some_iff.1 h5).1 ly M
    exact .inr ⟨rfl, rfl, .inr rfl, rfl, _, .tuple #[.slice a1 n1 c1, .slice (some ⟨W.heap.size, 0, none⟩) m m, .bool true], Try.func15, by kernel_rfl, W.heap.size, a1, n1, c1, _, m, m, rfl, Z1, B5.size, O1.out.below B5, O4, B1.out.trans ((Blw.of B5).mono Z1)⟩
end Lift
end Go.Proofs.Ytadngncbbbbapaa
