/-
  Chapter 12: the model's l12Form, l12Same, ProofOk, l12All, ProofAll.
-/
import Derived.Test.YtmfmhhopnmglcaaDoorPfz
import Derived.Test.YtmfmhhopnmglcaaDoorPfx
import Derived.Test.YtmfmhhopnmglcaaDoorPfk
namespace Go.Proofs.YtmfmhhopnmglcaaDoor
open Go.RowKit
set_option linter.unusedVariables false
set_option linter.unusedSimpArgs false
set_option maxRecDepth 20000
namespace Fp
/-- Whether a proof is in form. -/
def form (k : Int) (x y : Int) (h : List Int) : Bool := tk k && wf (tlen k) x y h
theorem form_iff {k x y : Int} {h : List Int} : form k x y h = true ↔ tk k = true ∧ wf (tlen k) x y h = true := by simp [form]
theorem tvec_wf {k : Int} {v : List Int} (hv : tvec k v = true) (x y : Int) (h : List Int) : wf v.length x y h = form k x y h := by
  obtain ⟨h1, _, h2⟩ := tvec_iff.1 hv
  simp [form, h1, h2]
theorem pfok_eq (k : Int) (v : List Int) (x y : Int) (h : List Int) : pfok k v x y h = (form k x y h && tvec k v && tok k v && eqB h (prf v x y)) := by
  unfold pfok
  cases ht : tok k v
  · simp
  · rw [tvec_wf (tok_vec ht), tok_vec ht]; simp
theorem pall_eq (k : Int) (v : List Int) (x y : Int) (h : List Int) : pall k v x y h = (form k x y h && tvec k v) := by
  unfold pall
  cases ht : tvec k v
  · simp
  · rw [tvec_wf ht]; simp
end Fp
theorem spec_l12Same (a a' : Option Addr) (n n' cap cap' : Nat) (xs ys : List Int) (w : World) (h : Sl w a n xs) (h' : Sl w a' n' ys) (hm : n ≤ 1048576) (hm' : n' ≤ 1048576) :
    Calls Tryd.prog 37 #[.slice a n cap, .slice a' n' cap'] w (Drew (.bool (eqB xs ys)) w) := by
  have H := Lib.hid h
  have H' := Lib.hid h'
  have L := Lib.hid h.len
  have L' := Lib.hid h'.len
  clear h h'
  by_cases e : n = n'
  · subst e
    go_enter Tryd.func37, Tryd.ntmps37
    go_wp2
    go_loopw [5] (fun i wr => ∃ (k m : Nat), k ≤ n ∧ sameTo xs ys k ∧ i = .int .i64 k ∧ Hid (wr = w.drewN m)) (fun i _ => n - (intOf i).toNat)
    case atStart => exact ⟨0, 0, by omega, sameTo_zero _ _, rfl, rfl⟩
    case round =>
      obtain ⟨k, m, hk, ht, rfl, hw⟩ := hrel
      have T := Lib.hid ht
      clear ht
      by_cases hlt : k < n
      · have S := H.out.drewN m
        have S' := H'.out.drewN m
        rw [← hw.out] at S S'
        obtain ⟨b, off, z, rfl, hc, hz⟩ := S.get hlt
        obtain ⟨b', off', z', rfl, hc', hz'⟩ := S'.get hlt
        clear S S'
        by_cases hf : z = z'
        · have T2 := Lib.hid (sameTo_succ T.out (by rw [← hz.out, ← hz'.out]; exact hf))
          subst hf
          go_wp2
          go_quiet (fail)
          go_wp2
          go_roundw
          case rel => exact ⟨k + 1, m + nq, by omega, T2.out, by go_num, by show _ = _; rw [hw.out, World.drewN_drewN]⟩
          case measure => simp [intOf]; omega
        · have E := Lib.hid (eqB_at (xs := xs) (ys := ys) (k := k) (by rw [← hz.out, ← hz'.out]; exact hf))
          have hfb : (z == z') = false := beqF hf
          have hfn : (z != z') = true := by rw [bne, hfb]; rfl
          clear hf
          go_wp2
          go_quiet (fail)
          go_wp2
          go_ret
          exact ⟨by rw [E.out]; rfl, m + nq, by rw [hw.out, World.drewN_drewN]⟩
      · have E := Lib.hid (eqB_all (xs := xs) (ys := ys) (by rw [L.out, L'.out]) (by rw [L.out, ← show k = n by omega]; exact T.out))
        go_wp2
        go_ret
        exact ⟨by rw [E.out]; rfl, m, hw.out⟩
  · have E := Lib.hid (eqB_len (xs := xs) (ys := ys) (by rw [L.out, L'.out]; exact e))
    have ei : ((n : Int) != (n' : Int)) = true := by simp; omega
    clear e
    go_enter Tryd.func37, Tryd.ntmps37
    go_wp2
    go_ret
    exact ⟨by rw [E.out]; rfl, 0, rfl⟩
set_option maxHeartbeats 1000000 in
theorem spec_l12Form (k : Int) (x y : Int) (b : Option Addr) (m cp : Nat) (hs : List Int) (w : World) (h : Sl w b m hs) (hm : m ≤ 1048576) :
    Calls Tryd.prog 34 #[.int .i64 k, .agg #[.int .i64 x, .int .i64 y, .slice b m cp]] w (Bel (.bool (Fp.form k x y hs)) w) := by
  obtain ⟨w1, hw1, Z1, B1, T1⟩ := prf_box w x y b m cp 28
  obtain ⟨c0, c1, c2, -, -, -⟩ := T1.three'
  have H := Lib.hid (h.below B1)
  have L := h.len
  have BB := Lib.hid B1
  clear h B1 T1
  have cl : ∀ {f : FuncId} {args : Array Value} {v v' : Bool} (hv : v = v') (W : World), (Calls Tryd.prog f args W fun e w' => e = .returned (.bool v) ∧ W = w') → Calls Tryd.prog f args W fun e w' => e = .returned (.bool v') ∧ w' = W := fun hv W h => by subst hv; exact quiet_l h
  cases hk : Fp.tk k
  · have E : Fp.form k x y hs = false := by simp [Fp.form, hk]
    rw [E]
    go_enter Tryd.func34, Tryd.ntmps34
    go_wp2_with fail
    go_quiet (first | (go_at_call 54; exact Calls.quiet_of_same (cl hk _ (spec_l11Kind _ _))))
    go_wp2
    go_ret
    exact ⟨rfl, below_drewN BB.out _⟩
  cases hx : Fp.ok x
  · have E : Fp.form k x y hs = false := by simp [Fp.form, Fp.wf, hx]
    rw [E]
    go_enter Tryd.func34, Tryd.ntmps34
    go_wp2_with fail
    go_quiet (first | (go_at_call 54; exact Calls.quiet_of_same (cl hk _ (spec_l11Kind _ _))) | (go_at_call 58; exact Calls.quiet_of_same (cl hx _ (spec_FieldOk _ _))))
    go_wp2
    go_ret
    exact ⟨rfl, below_drewN BB.out _⟩
  cases hy : Fp.ok y
  · have E : Fp.form k x y hs = false := by simp [Fp.form, Fp.wf, hy]
    rw [E]
    go_enter Tryd.func34, Tryd.ntmps34
    go_wp2_with fail
    go_quiet (first | (go_at_call 54; exact Calls.quiet_of_same (cl hk _ (spec_l11Kind _ _))) | (go_at_call 58; exact Calls.quiet_of_same (cl hx _ (spec_FieldOk _ _))) | (go_at_call 58; exact Calls.quiet_of_same (cl hy _ (spec_FieldOk _ _))))
    go_wp2
    go_ret
    exact ⟨rfl, below_drewN BB.out _⟩
  cases hp : Fp.pok hs
  · have E : Fp.form k x y hs = false := by simp [Fp.form, Fp.wf, hp]
    rw [E]
    go_enter Tryd.func34, Tryd.ntmps34
    go_wp2_with fail
    go_quiet (first | (go_at_call 54; exact Calls.quiet_of_same (cl hk _ (spec_l11Kind _ _))) | (go_at_call 58; exact Calls.quiet_of_same (cl hx _ (spec_FieldOk _ _))) | (go_at_call 58; exact Calls.quiet_of_same (cl hy _ (spec_FieldOk _ _))) | (go_at_call 59; exact Calls.quiet_of_same (cl hp _ (spec_PolyOk _ _ _ _ _ (H.out.drewN _) hm))))
    go_wp2
    go_ret
    exact ⟨rfl, below_drewN BB.out _⟩
  have t4 := Fp.tlen_le k
  have f1 : IntKind.i64.wrap (2 * ((Fp.tlen k : Nat) : Int)) = 2 * ((Fp.tlen k : Nat) : Int) := IntWalk.i64_in _ (by omega)
  have f2 : IntKind.i64.wrap (2 * ((Fp.tlen k : Nat) : Int) + 1) = 2 * ((Fp.tlen k : Nat) : Int) + 1 := IntWalk.i64_in _ (by omega)
  obtain ⟨t, ht⟩ : ∃ t, Fp.form k x y hs = t := ⟨_, rfl⟩
  have E : ((m : Int) == 2 * ((Fp.tlen k : Nat) : Int) + 1) = t := by
    rw [← ht]
    simp only [Fp.form, Fp.wf, hk, hx, hy, hp, L, Bool.true_and, Bool.and_true]
    by_cases e : m = 2 * Fp.tlen k + 1
    · rw [decide_eq_true e]; exact beqT (by omega)
    · rw [decide_eq_false e]; exact beqF (by omega)
  rw [ht]
  clear ht L
  go_enter Tryd.func34, Tryd.ntmps34
  go_wp2_with fail
  go_quiet (first | (go_at_call 54; exact Calls.quiet_of_same (cl hk _ (spec_l11Kind _ _))) | (go_at_call 58; exact Calls.quiet_of_same (cl hx _ (spec_FieldOk _ _))) | (go_at_call 58; exact Calls.quiet_of_same (cl hy _ (spec_FieldOk _ _))) | (go_at_call 59; exact Calls.quiet_of_same (cl hp _ (spec_PolyOk _ _ _ _ _ (H.out.drewN _) hm))) | (go_at_call 60; exact Calls.quiet_of_same (quiet_l (spec_TypeLen _ _))))
  go_wp2
  go_ret
  exact ⟨rfl, below_drewN BB.out _⟩
end Go.Proofs.YtmfmhhopnmglcaaDoor
