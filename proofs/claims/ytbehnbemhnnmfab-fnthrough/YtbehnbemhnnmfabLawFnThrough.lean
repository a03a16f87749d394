/-
  Through values goes a polynomial, and through a polynomial's own values it goes itself: the law FnThrough returns true for every two codes.
  Conditions: none but the statement's own. Proved: Rows.FnThroughSaid.
-/
import Derived.Test.YtbehnbemhnnmfabRows
import Derived.WalkKit
import Derived.ProofKit
import Derived.OpenShut
import Derived.ShutString
import Derived.ChangeOld
import Derived.Below
import Derived.Test.YtbehnbemhnnmfabFp
import Derived.Test.YtbehnbemhnnmfabBase
import Derived.Test.YtbehnbemhnnmfabField
import Derived.Test.YtbehnbemhnnmfabSl
import Derived.Test.YtbehnbemhnnmfabLw
import Derived.Test.YtbehnbemhnnmfabPoly
import Derived.Test.YtbehnbemhnnmfabPthr
import Derived.Test.YtbehnbemhnnmfabPths
import Derived.Test.YtbehnbemhnnmfabDraw
import Derived.Test.YtbehnbemhnnmfabDlist
namespace Go.Proofs.Ytbehnbemhnnmfab.fnThrough
open Go.ChangeShapes Go.WideShapes Go.ChangeAt Go.RowKit
open Go.ChangeMaps (open_string shut_string)
set_option linter.unusedVariables false
set_option linter.unusedSimpArgs false

theorem own : ownKnob Try.prog.godebug = none := by kernel_rfl
theorem laidOut : laidOutB Try.prog = true := by kernel_rfl

theorem at_thr {vals : List Int} (hv : Fp.pok vals = true) {m : Nat} (hm : m < vals.length) : Fp.at_ (thrOf vals) m = vals.getD m 0 := by
  have h9 := Fp.pok_len hv
  rw [thrOf_yes hv, Fp.at_eq (Fp.thr_pok h9) (Fp.nat_ok (by omega)), Fp.horn_ev]
  exact (Fp.thr_at (by omega) hm).mod (Fp.pok_get hv m)
theorem some_pok (n m : Nat) (h : m ≤ 9) : Fp.pok (some_ n m) = true := by
  rw [Fp.pok_iff, some_len]
  refine ⟨h, fun z hz => ?_⟩
  simp [some_] at hz
  obtain ⟨i, _, rfl⟩ := hz
  exact Fp.emod_ok _
def ownAt (q : List Int) (k : Nat) : List Int := (List.range k).map fun (i : Nat) => Fp.at_ q (i : Int)
theorem ownAt_succ (q : List Int) (k : Nat) : ownAt q (k + 1) = ownAt q k ++ [Fp.at_ q (k : Int)] := by simp [ownAt, List.range_succ]
theorem ownAt_len (q : List Int) (k : Nat) : (ownAt q k).length = k := by simp [ownAt]
theorem thr_own {q : List Int} (hq : Fp.pok q = true) : thrOf (ownAt q q.length) = q := by
  have h9 := Fp.pok_len hq
  have hp : Fp.pok (ownAt q q.length) = true := by
    rw [Fp.pok_iff, ownAt_len]
    refine ⟨h9, fun z hz => ?_⟩
    simp [ownAt] at hz
    obtain ⟨i, _, rfl⟩ := hz
    exact Fp.at_ok _ _
  rw [thrOf_yes hp]
  symm
  refine Fp.thr_uniq (by rw [ownAt_len]) (by rw [ownAt_len]; omega) ((Fp.pok_iff _).1 hq).2 fun m hm => ?_
  rw [ownAt_len] at hm
  rw [ownAt, Fp.getD_map _ hm, Fp.at_eq hq (Fp.nat_ok (by omega)), Fp.horn_ev]
  exact (Fp.cg_mod _).symm
theorem own_belowB {lo hi base : Nat} {w w' : World} {a : Option Addr} {n cap : Nat} {zs : List Int} (h : Own lo hi w a n cap zs) (k : Below base w w') (hb : hi ≤ base) : Own lo hi w' a n cap zs :=
  h.keep (Chg.of_below k) fun c _ h2 _ => by omega
theorem own_below {base : Nat} {e : TypeId} {v : Value} {n : Nat} {xs : List Value} {w w' : World} (h : w.ownsRow base e 1 v n xs) (k : Below w.heap.size w w') : w'.ownsRow base e 1 v n xs := by
  rcases h with ⟨h1, h2 | ⟨g, cap, cur, hv, hg, hh, h3⟩⟩
  · exact ⟨h1, .inl h2⟩
  · have hlt : g < w.heap.size := by
      rcases Nat.lt_or_ge g w.heap.size with h' | h'
      · exact h'
      · rw [Array.getElem?_eq_none h'] at hh; cases hh
    exact ⟨h1, .inr ⟨g, cap, cur, hv, hg, by rw [k.block g hlt]; exact hh, h3⟩⟩
set_option maxHeartbeats 1000000 in
set_option maxRecDepth 100000 in
theorem walk (a0 : Option Addr) (len0 cap0 : Nat) (z0 : List Int) (a1 : Option Addr) (len1 cap1 : Nat) (z1 : List Int) (w : World) (w0 : IsRow .u8 w a0 len0 cap0 z0) (w1 : IsRow .u8 w a1 len1 cap1 z1) :
    Calls Try.prog 4 #[.slice a0 len0 cap0, .slice a1 len1 cap1] w fun e w' => e = .returned (.bool true) ∧ Below w.heap.size w w' := by
  obtain ⟨c1, c2⟩ := w0.sizes
  obtain ⟨d1, d2⟩ := w1.sizes
  have Hb := Lib.hid (Bys.of_row w0)
  clear w0 w1
  by_cases hl : 1048576 < len0
  · go_enter Try.func4, Try.ntmps4
    go_wp2
    go_ret
    exact ⟨rfl, Below.refl _ _⟩
  by_cases hl' : 1048576 < len1
  · go_enter Try.func4, Try.ntmps4
    go_wp2
    go_ret
    exact ⟨rfl, Below.refl _ _⟩
  have B := Lib.hid (Below.refl w.heap.size w)
  go_enter Try.func4, Try.ntmps4
  go_wp2_with fail
  refine (spec_DrawPolyThrough a0 len0 cap0 w Hb.out c1 c2).mono ?_
  rintro e W1 ⟨a_v, n_v, c_v, vs, h_v, rfl, o_v, b_d⟩
  have Z_W1 : w.heap.size ≤ W1.heap.size := b_d.size
  have O_v := Lib.hid o_v
  have L_v := Lib.hid o_v.len
  replace B := Lib.hid (B.out.trans (b_d.mono B.out.size))
  clear b_d o_v
  clear c1 c2 d1 d2
  have pl := Lib.hid (thrOf_len vs)
  have e1 := eqB_self (thrOf vs)
  go_wp2_with fail
  refine (impl_PolyThrough _ _ _ _ _ O_v.out.sl).mono ?_
  rintro e W2 ⟨a_p, n_p, c_p, rfl, o_p, b_p⟩
  have O_p := Lib.hid o_p
  have L_p := Lib.hid o_p.len
  have Z_W2 : W1.heap.size ≤ W2.heap.size := b_p.size
  replace O_v := Lib.hid (O_v.out.below b_p)
  replace B := Lib.hid (B.out.trans (b_p.mono B.out.size))
  clear o_p b_p
  have h_p : n_p ≤ 9 := by rw [← L_p.out]; exact pl.out
  go_wp2_with fail
  refine (spec_PolyThrough _ _ _ _ _ O_v.out.sl (by omega)).mono ?_
  rintro e W3 ⟨a_s, n_s, c_s, rfl, o_s, b_s⟩
  have O_s := Lib.hid o_s
  have L_s := Lib.hid o_s.len
  have Z_W3 : W2.heap.size ≤ W3.heap.size := b_s.size
  replace O_v := Lib.hid (O_v.out.below b_s)
  replace O_p := Lib.hid (O_p.out.below b_s)
  replace B := Lib.hid (B.out.trans (b_s.mono B.out.size))
  clear o_s b_s
  have h_s : n_s ≤ 9 := by rw [← L_s.out]; exact pl.out
  go_wp2_with fail
  refine (laws_loInts _ _ _ _ _ _ _ _ _ O_p.out.sl O_s.out.sl (by omega) (by omega)).mono ?_
  rintro e W4 hd
  obtain ⟨rfl, b_d⟩ := hd.below
  have Z_W4 : W3.heap.size ≤ W4.heap.size := b_d.size
  clear hd
  replace O_v := Lib.hid (O_v.out.below b_d)
  replace O_p := Lib.hid (O_p.out.below b_d)
  replace O_s := Lib.hid (O_s.out.below b_d)
  replace B := Lib.hid (B.out.trans (b_d.mono B.out.size))
  clear b_d
  cases hv : Fp.pok vs
  · skip
    go_wp2_with fail
    refine (spec_PolyOk _ _ _ _ _ O_v.out.sl (by omega)).mono ?_
    rintro e w' ⟨rfl, rfl⟩
    go_wp2_with fail
    refine (spec_PolyThrough _ _ _ _ _ O_v.out.sl (by omega)).mono ?_
    rintro e W5 ⟨a_t, n_t, c_t, rfl, o_t, b_t⟩
    have O_t := Lib.hid o_t
    have L_t := Lib.hid o_t.len
    have Z_W5 : W4.heap.size ≤ W5.heap.size := b_t.size
    replace O_v := Lib.hid (O_v.out.below b_t)
    replace O_p := Lib.hid (O_p.out.below b_t)
    replace O_s := Lib.hid (O_s.out.below b_t)
    replace B := Lib.hid (B.out.trans (b_t.mono B.out.size))
    clear o_t b_t
    have h_t : n_t ≤ 9 := by rw [← L_t.out]; exact pl.out
    go_wp2_with fail
    refine (laws_loInts _ _ _ _ _ _ _ _ _ O_p.out.sl O_t.out.sl (by omega) (by omega)).mono ?_
    rintro e W6 hd
    obtain ⟨rfl, b_d⟩ := hd.below
    have Z_W6 : W5.heap.size ≤ W6.heap.size := b_d.size
    clear hd
    replace O_v := Lib.hid (O_v.out.below b_d)
    replace O_p := Lib.hid (O_p.out.below b_d)
    replace O_s := Lib.hid (O_s.out.below b_d)
    replace O_t := Lib.hid (O_t.out.below b_d)
    replace B := Lib.hid (B.out.trans (b_d.mono B.out.size))
    clear b_d
    go_wp2
    go_ret
    exact ⟨rfl, B.out⟩
  · skip
    go_wp2_with fail
    refine (spec_PolyOk _ _ _ _ _ O_v.out.sl (by omega)).mono ?_
    rintro e w' ⟨rfl, rfl⟩
    go_wp2_with fail
    refine (laws_loSome len1 n_v _ (by omega) (by omega)).mono ?_
    rintro e W7 ⟨a_q, n_q, c_q, rfl, o_q, b_q⟩
    have O_q := Lib.hid o_q
    have L_q := Lib.hid o_q.len
    have Z_W7 : W4.heap.size ≤ W7.heap.size := b_q.size
    replace O_v := Lib.hid (O_v.out.below b_q)
    replace O_p := Lib.hid (O_p.out.below b_q)
    replace O_s := Lib.hid (O_s.out.below b_q)
    replace B := Lib.hid (B.out.trans (b_q.mono B.out.size))
    clear o_q b_q
    have h_q : n_q = n_v := by rw [← L_q.out]; exact some_len _ _
    have h_p2 : n_p = n_v := by rw [← L_p.out, thrOf_yes hv, Fp.thr_len]; exact L_v.out
    subst h_p2
    subst h_q
    have QP := Lib.hid (some_pok len1 n_q h_v)
    have TH : ∀ m : Nat, m < n_q → Hid (Fp.at_ (thrOf vs) m = vs.getD m 0) := fun m hm => at_thr hv (by rw [L_v.out]; exact hm)
    have TO : Hid (thrOf (ownAt (some_ len1 n_q) n_q) = some_ len1 n_q) := by
      have := thr_own QP.out
      rw [some_len] at this
      exact this
    have TH' := Lib.hid TH
    clear TH O_s
    obtain ⟨Wb, hWb⟩ : ∃ n, n = W7.heap.size := ⟨_, rfl⟩
    have WB := Lib.hid hWb
    have z1 : W1.heap.size ≤ Wb := by omega
    have z2 : W2.heap.size ≤ Wb := by omega
    have z3 : w.heap.size ≤ Wb := by omega
    have z4 : Wb ≤ W7.heap.size := by omega
    clear hWb
    go_wp2
    go_loopw [8, 9] (fun o i wr => ∃ (k c : Nat) (a : Option Addr), k ≤ n_q ∧ i = .int .i64 k ∧ o = .slice a k c ∧ Wb ≤ wr.heap.size ∧ Hid (Own w.heap.size W1.heap.size wr a_v n_q c_v vs) ∧ Hid (Own W1.heap.size W2.heap.size wr a_p n_q c_p (thrOf vs)) ∧ Hid (Own W4.heap.size Wb wr a_q n_q c_q (some_ len1 n_q)) ∧ Hid (wr.ownsRow Wb 3 1 (.slice a k c) k ((ownAt (some_ len1 n_q) k).map (Value.int .i64))) ∧ Hid (Below w.heap.size w wr)) (fun _ i _ => n_q - (intOf i).toNat)
    case atStart =>
      refine ⟨0, 0, _, by omega, rfl, rfl, by simp; omega, O_v.out.alloc _, O_p.out.alloc _, ?_, ?_, B.out.alloc B.out.size _⟩
      · have := O_q.out.alloc (.cells #[] 3)
        rw [← WB.out] at this
        exact this
      · exact own_empty _ _ _ (by omega)
    case round =>
      clear O_v O_p O_q B
      obtain ⟨k, c, a, hk, rfl, rfl, hZ, O_v, O_p, O_q, O_o, B⟩ := hrel
      by_cases hlt : k < n_q
      · obtain ⟨b, off, z, rfl, hc, C⟩ := O_v.out.sl.get hlt
        have TE := Lib.hid ((TH'.out k hlt).out)
        rw [← C.out] at TE
        have tb : (Fp.at_ (thrOf vs) (k : Int) != z) = false := by rw [TE.out]; simp
        have k6 : k ≤ 1048576 := by omega
        go_wp2
        go_quiet ((go_at_call 15; exact Calls.quiet_of (impl_PolyAt _ _ _ _ _ _ (O_p.out.sl.drewN _))))
        go_wp2_with fail
        refine (impl_PolyAt _ _ _ _ _ _ (O_q.out.sl.drewN nq)).mono ?_
        rintro e V2 hd
        obtain ⟨rfl, b_d⟩ := hd.below
        have bb : Below wr.heap.size wr V2 := (below_drewN (Below.refl _ _) nq).trans b_d
        clear hd b_d
        replace O_v := Lib.hid (O_v.out.below bb)
        replace O_p := Lib.hid (O_p.out.below bb)
        replace O_q := Lib.hid (O_q.out.below bb)
        replace O_o := Lib.hid (own_below O_o.out bb)
        replace B := Lib.hid (B.out.trans (bb.mono B.out.size))
        replace hZ : Wb ≤ V2.heap.size := Nat.le_trans hZ bb.size
        clear bb
        go_wp2_with (at_builtin; (refine wpList_push int_ty rfl (.tmp 56) (.tmp 60) rfl Wb rfl rfl O_o.out k6 hZ ?_); intro g cap' V3 own3 bel3)
        have O3 := Lib.hid own3
        replace O_v := Lib.hid (own_belowB O_v.out bel3 z1)
        replace O_p := Lib.hid (own_belowB O_p.out bel3 z2)
        replace O_q := Lib.hid (own_belowB O_q.out bel3 (Nat.le_refl _))
        replace B := Lib.hid (B.out.trans (bel3.mono z3))
        have hZ3 : Wb ≤ V3.heap.size := Nat.le_trans hZ bel3.size
        clear own3 bel3
        go_wp2
        go_roundw
        case rel => exact ⟨k + 1, cap', _, by omega, by go_num, rfl, hZ3, O_v.out, O_p.out, O_q.out, by rw [ownAt_succ]; exact O3.out, B.out⟩
        case measure => simp [intOf]; omega
      · have e : k = n_q := by omega
        subst e
        have OO := Lib.hid (Own.of_row O_o.out)
        have e2 := eqB_self (some_ len1 k)
        go_wp2_with fail
        refine (impl_PolyThrough _ _ _ _ _ OO.out.sl).mono ?_
        rintro e W8 ⟨a_r, n_r, c_r, rfl, o_r, b_r⟩
        have O_r := Lib.hid o_r
        have L_r := Lib.hid o_r.len
        have Z_W8 : wr.heap.size ≤ W8.heap.size := b_r.size
        replace O_q := Lib.hid (O_q.out.below b_r)
        replace B := Lib.hid (B.out.trans (b_r.mono B.out.size))
        clear o_r b_r
        rw [TO.out] at O_r L_r
        have h_r : n_r ≤ 9 := by rw [← L_r.out, some_len]; exact h_v
        go_wp2_with fail
        refine (laws_loInts _ _ _ _ _ _ _ _ _ O_r.out.sl O_q.out.sl (by omega) (by omega)).mono ?_
        rintro e W9 hd
        obtain ⟨rfl, b_d⟩ := hd.below
        have Z_W9 : W8.heap.size ≤ W9.heap.size := b_d.size
        clear hd
        replace O_q := Lib.hid (O_q.out.below b_d)
        replace O_r := Lib.hid (O_r.out.below b_d)
        replace B := Lib.hid (B.out.trans (b_d.mono B.out.size))
        clear b_d
        go_wp2
        go_ret
        exact ⟨rfl, B.out⟩

/-! ### THE ROW's STEP: WRITTEN OUT: LEAVE IT -/
set_option maxRecDepth 100000 in
theorem lifted (os : Os) (started : os.Started) (H : Type) (enc : TypeId × Value → H) :
    ReturnsInHanded {} Try.checked os 4 .any (Rows.fnThroughSpec.pre6 enc Try.prog Try.f4 Rows.fnThroughRow.domain false) (Rows.fnThroughSpec.post enc Try.prog Try.f4 false true false false) := by
  refine returnsInHanded_of_change (C := Try.checked) own started (by kernel_rfl) Try.func4
    (ChangeSpec.witness6 (enc := enc) (C := Try.checked) false ⟨#[], #[.slice none 0 0, .slice none 0 0], []⟩ 8 (by kernel_rfl) (by kernel_rfl) (by kernel_rfl) (by kernel_rfl)) ?_
  intro W base args ds gs before hval0 hW hcnd _
  have hval : ∀ (j : Nat) t v, Try.f4.params[j]? = some t → args[j]? = some v → Value.okWide Try.prog W .any base t v := hval0
  have hW' := hW
  obtain ⟨p, q, hA0, hV, rfl, hfz, hnd⟩ := hW
  have hA : DataW.TrodAll enc Try.prog W 0 (fun _ => true) true Try.f4.params.toList args.toList ds p := hA0
  rw [Try.params4] at hA hval
  obtain ⟨v0, vs0, d0, ds0, p0, q0, hargs, rfl, rfl, h0, r0⟩ := trodAll_cons hA
  obtain ⟨v1, vs1, d1, ds1, p1, q1, rfl, rfl, rfl, h1, r1⟩ := trodAll_cons r0
  obtain ⟨rfl, rfl, rfl⟩ := trodAll_nil r1
  obtain rfl : args = #[v0, v1] := by cases args; simp_all
  obtain ⟨rfl, rfl⟩ := trodVars_none hV
  obtain ⟨a0, len0, cap0, rfl⟩ := okWide_slice Try.underlying22 (hval 0 22 v0 rfl rfl)
  have k0 := h0
  have lt0 : ∀ x ∈ p0, x.block < W.heap.size := by obtain ⟨m, hm⟩ := k0; exact DataW.trod_lt m _ _ _ hm
  obtain ⟨z0, w0⟩ : ∃ zs, IsRow .u8 W a0 len0 cap0 zs := by
    obtain ⟨fuel, hf⟩ := h0
    rcases open_ints Try.underlying22 Try.underlying5 (by kernel_rfl) hf with ⟨hcs, _⟩ | ⟨x, l, c, zs, hcs, _, hl, hm, hz, _, hcell, hwz⟩
    · simp [Value.cells] at hcs
      obtain ⟨rfl, rfl, rfl⟩ := hcs
      exact ⟨[], .inl ⟨rfl, rfl, rfl, rfl⟩⟩
    · simp [Value.cells] at hcs
      obtain ⟨rfl, rfl, rfl⟩ := hcs
      exact ⟨zs, .inr ⟨_, rfl, hl, hm, by simpa using hz, hcell, hwz⟩⟩
  obtain ⟨a1, len1, cap1, rfl⟩ := okWide_slice Try.underlying22 (hval 1 22 v1 rfl rfl)
  have k1 := h1
  have lt1 : ∀ x ∈ p1, x.block < W.heap.size := by obtain ⟨m, hm⟩ := k1; exact DataW.trod_lt m _ _ _ hm
  obtain ⟨z1, w1⟩ : ∃ zs, IsRow .u8 W a1 len1 cap1 zs := by
    obtain ⟨fuel, hf⟩ := h1
    rcases open_ints Try.underlying22 Try.underlying5 (by kernel_rfl) hf with ⟨hcs, _⟩ | ⟨x, l, c, zs, hcs, _, hl, hm, hz, _, hcell, hwz⟩
    · simp [Value.cells] at hcs
      obtain ⟨rfl, rfl, rfl⟩ := hcs
      exact ⟨[], .inl ⟨rfl, rfl, rfl, rfl⟩⟩
    · simp [Value.cells] at hcs
      obtain ⟨rfl, rfl, rfl⟩ := hcs
      exact ⟨zs, .inr ⟨_, rfl, hl, hm, by simpa using hz, hcell, hwz⟩⟩
  clear hA0 hval0
  refine (walk a0 len0 cap0 z0 a1 len1 cap1 z1 W w0 w1).mono fun e W' ⟨he, bel⟩ => ?_
  subst he
  exact ⟨_, rfl, _, _, _, [], _, [], hW', trodAll_mk1 (shut_bool Try.underlying4 _), (trodAll_cons_mk (Below.trod laidOut (by kernel_rfl) (of_decide_eq_true (by kernel_rfl)) k0 bel lt0) (trodAll_cons_mk (Below.trod laidOut (by kernel_rfl) (of_decide_eq_true (by kernel_rfl)) k1 bel lt1) trodAll_mk0)), rfl, bel.frame _, fun h => by cases h⟩

theorem over : Rows.fnThroughRow.holds Try.pinned (OpenSpec.ofChange Rows.fnThroughSpec) :=
  OpenClaim.holds_of_wide 4 Try.f4 rfl rfl rfl rfl rfl rfl rfl ⟨rfl, rfl, rfl, rfl, rfl⟩ rfl rfl rfl rfl rfl (by kernel_rfl) Try.func4 (by kernel_rfl)
    (of_decide_eq_true (by kernel_rfl)) (by unfold Func.isWrapper; first | (rw [if_pos (by decide +kernel)]; kernel_rfl) | (rw [if_neg (by decide +kernel)]; exact ⟨rfl, rfl⟩))
    (fun os started H enc _ => lifted os started H enc)

/-- ████ THE STATEMENT ████ -/
theorem proved : Rows.FnThroughSaid := over
#print axioms proved
end Go.Proofs.Ytbehnbemhnnmfab.fnThrough
