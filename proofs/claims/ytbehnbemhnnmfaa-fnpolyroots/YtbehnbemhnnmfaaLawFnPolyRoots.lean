/-
  A polynomial that is not 0 is 0 at fewer places than it has numbers: the law FnPolyRoots returns true for every code.
  Conditions: none but the statement's own. Proved: Rows.FnPolyRootsSaid.
-/
import Derived.Test.YtbehnbemhnnmfaaRows
import Derived.WalkKit
import Derived.ProofKit
import Derived.OpenShut
import Derived.ShutString
import Derived.ChangeOld
import Derived.Below
import Derived.Test.YtbehnbemhnnmfaaFp
import Derived.Test.YtbehnbemhnnmfaaBase
import Derived.Test.YtbehnbemhnnmfaaField
import Derived.Test.YtbehnbemhnnmfaaSl
import Derived.Test.YtbehnbemhnnmfaaLw
import Derived.Test.YtbehnbemhnnmfaaPoly
import Derived.Test.YtbehnbemhnnmfaaDraw
import Derived.Test.YtbehnbemhnnmfaaDlist
namespace Go.Proofs.Ytbehnbemhnnmfaa.fnPolyRoots
open Go.ChangeShapes Go.WideShapes Go.ChangeAt Go.RowKit
open Go.ChangeMaps (open_string shut_string)
set_option linter.unusedVariables false
set_option linter.unusedSimpArgs false

theorem own : ownKnob Try.prog.godebug = none := by kernel_rfl
theorem laidOut : laidOutB Try.prog = true := by kernel_rfl

def allZ (zs : List Int) (k : Nat) : Bool := (zs.take k).all (· == 0)
theorem allZ_step {zs : List Int} {k : Nat} (hk : k < zs.length) : allZ zs (k + 1) = (allZ zs k && (zs.getD k 0 == 0)) := by
  unfold allZ
  rw [List.take_succ_eq_append_getElem hk, List.all_append, List.getD_eq_getElem?_getD, List.getElem?_eq_getElem hk]
  simp
def cnt (zs : List Int) : Nat → Nat
  | 0 => 0
  | k + 1 => cnt zs k + if Fp.horn zs k = 0 then 1 else 0
theorem cnt_le (zs : List Int) (k : Nat) : cnt zs k ≤ k := by
  induction k with
  | zero => exact Nat.le_refl _
  | succ k ih => rw [cnt]; split <;> omega
theorem cnt_filter (zs : List Int) (k : Nat) : cnt zs k = ((Fp.pts k).filter fun x => decide (Fp.horn zs x = 0)).length := by
  induction k with
  | zero => rfl
  | succ k ih =>
    have : Fp.pts (k + 1) = Fp.pts k ++ [(k : Int)] := by simp [Fp.pts, List.range_succ]
    rw [cnt, ih, this, List.filter_append, List.length_append]
    by_cases h : Fp.horn zs k = 0 <;> simp [h]
theorem few {zs : List Int} (hp : Fp.pok zs = true) (h : allZ zs zs.length = false) : cnt zs 31 < zs.length := by
  rcases Nat.lt_or_ge (cnt zs 31) zs.length with h' | h'
  · exact h'
  · exfalso
    have hz := Fp.roots zs ((Fp.pts 31).filter fun x => decide (Fp.horn zs x = 0)) (by rw [← cnt_filter]; exact h') ((Fp.pts_pair 31 (by omega)).filter _) (by
      intro x hx
      simp at hx
      have := hx.2
      rw [Fp.horn_ev] at this
      unfold Fp.cg; omega)
    have : allZ zs zs.length = true := by
      unfold allZ
      rw [List.take_length, List.all_eq_true]
      intro z hzm
      have h1 := hz z hzm
      have h2 := (Fp.ok_iff z).1 (((Fp.pok_iff _).1 hp).2 z hzm)
      unfold Fp.cg at h1
      simp; omega
    rw [this] at h; cases h
theorem many {zs : List Int} (h : allZ zs zs.length = true) : cnt zs 31 = 31 := by
  have hz : ∀ x, Fp.horn zs x = 0 := by
    intro x
    unfold allZ at h
    rw [List.take_length, List.all_eq_true] at h
    induction zs with
    | nil => rfl
    | cons c p ih =>
      have h0 : c = 0 := by have := h c (by simp); simpa using this
      have h1 := ih (fun z hz => h z (by simp [hz]))
      show (Fp.horn p x * x + c) % 31 = 0
      rw [h1, h0]; simp
  have : ∀ k, cnt zs k = k := by
    intro k
    induction k with
    | zero => rfl
    | succ k ih => rw [cnt, ih, if_pos (hz _)]
  exact this 31
set_option maxHeartbeats 1000000 in
set_option maxRecDepth 100000 in
theorem walk (a0 : Option Addr) (len0 cap0 : Nat) (z0 : List Int) (w : World) (w0 : IsRow .u8 w a0 len0 cap0 z0) :
    Calls Try.prog 6 #[.slice a0 len0 cap0] w fun e w' => e = .returned (.bool true) ∧ Below w.heap.size w w' := by
  obtain ⟨c1, c2⟩ := w0.sizes
  have Hb := Lib.hid (Bys.of_row w0)
  clear w0
  by_cases hl : 1048576 < len0
  · go_enter Try.func6, Try.ntmps6
    go_wp2
    go_ret
    exact ⟨rfl, Below.refl _ _⟩
  have B := Lib.hid (Below.refl w.heap.size w)
  go_enter Try.func6, Try.ntmps6
  go_wp2_with fail
  refine (spec_DrawPolyAt a0 len0 cap0 w Hb.out c1 c2).mono ?_
  rintro e W1 ⟨a_p, n_p, c_p, zs, x, h_p, x1, x2, rfl, o_p, b_d⟩
  have Z_W1 : w.heap.size ≤ W1.heap.size := b_d.size
  have O_p := Lib.hid o_p
  have L_p := Lib.hid o_p.len
  replace B := Lib.hid (B.out.trans (b_d.mono B.out.size))
  clear b_d o_p
  clear c1 c2
  go_wp2_with fail
  refine (impl_PolyAt _ _ _ _ _ _ O_p.out.sl).mono ?_
  rintro e W2 hd
  obtain ⟨rfl, b_d⟩ := hd.below
  have Z_W2 : W1.heap.size ≤ W2.heap.size := b_d.size
  clear hd
  replace O_p := Lib.hid (O_p.out.below b_d)
  replace B := Lib.hid (B.out.trans (b_d.mono B.out.size))
  clear b_d
  go_wp2_with fail
  refine (spec_PolyAt _ _ _ _ _ _ O_p.out.sl (by omega)).mono ?_
  rintro e w' ⟨rfl, rfl⟩
  cases hp : Fp.pok zs
  · go_wp2_with (first | (go_at_call 15; (with_reducible refine (spec_PolyOk _ _ _ _ _ O_p.out.sl (by omega)).mono ?_); rintro e w' ⟨rfl, rfl⟩) | (go_at_call 19; (with_reducible refine (spec_PolyAt _ _ _ _ _ _ O_p.out.sl (by omega)).mono ?_); rintro e w' ⟨rfl, rfl⟩))
    go_ret
    exact ⟨rfl, B.out⟩
  · skip
    go_wp2_with fail
    refine (spec_PolyOk _ _ _ _ _ O_p.out.sl (by omega)).mono ?_
    rintro e w' ⟨rfl, rfl⟩
    go_wp2
    go_loop [6, 7] (fun t i => ∃ (k : Nat) (u : Bool), k ≤ n_p ∧ Hid (u = allZ zs k) ∧ t = .bool u ∧ i = .int .i64 k) (fun _ i => n_p - (intOf i).toNat)
    case atStart => exact ⟨0, true, by omega, rfl, rfl, rfl⟩
    case round =>
      obtain ⟨k, u, hk, U, rfl, rfl⟩ := hrel
      by_cases hlt : k < n_p
      · obtain ⟨b, off, c, rfl, hc, C⟩ := O_p.out.sl.get hlt
        have ST := Lib.hid (allZ_step (zs := zs) (k := k) (by rw [L_p.out]; exact hlt))
        rw [← U.out, ← C.out] at ST
        cases u
        · have ST2 : Hid (false = allZ zs (k + 1)) := by show _ = _; rw [ST.out]; rfl
          go_wp2
          go_round
          case rel => exact ⟨k + 1, false, by omega, ST2.out, rfl, by go_num⟩
          case measure => simp [intOf]; omega
        · by_cases hc0 : c = 0
          · subst hc0
            have ST2 : Hid (true = allZ zs (k + 1)) := by show _ = _; rw [ST.out]; rfl
            go_wp2
            go_round
            case rel => exact ⟨k + 1, true, by omega, ST2.out, rfl, by go_num⟩
            case measure => simp [intOf]; omega
          · have hcb := beqF hc0
            have ST2 : Hid (false = allZ zs (k + 1)) := by show _ = _; rw [ST.out, hcb]; rfl
            clear hc0
            go_wp2
            go_round
            case rel => exact ⟨k + 1, false, by omega, ST2.out, rfl, by go_num⟩
            case measure => simp [intOf]; omega
      · have e : k = n_p := by omega
        subst e
        go_wp2
        go_loopw [8, 9] (fun m i wr => ∃ (j : Nat), j ≤ 31 ∧ cnt zs j ≤ j ∧ m = .int .i64 (cnt zs j : Int) ∧ i = .int .i64 j ∧ Hid (Own w.heap.size W1.heap.size wr a_p k c_p zs) ∧ Hid (Below w.heap.size w wr)) (fun _ i _ => 31 - (intOf i).toNat)
        case atStart => exact ⟨0, by omega, by simp [cnt], rfl, rfl, O_p.out, B.out⟩
        case round =>
          clear O_p B
          obtain ⟨j, hj, hcj, rfl, rfl, O_p, B⟩ := hrel
          by_cases hjt : j < 31
          · have hjo := Fp.nat_ok hjt
            have AE := Lib.hid (Fp.at_eq hp hjo)
            have LE := cnt_le zs (j + 1)
            by_cases hz : Fp.horn zs (j : Int) = 0
            · have zb : (Fp.at_ zs (j : Int) == 0) = true := beqT (by rw [AE.out]; exact hz)
              have CE : Hid ((cnt zs (j + 1) : Int) = (cnt zs j : Int) + 1) := by show _ = _; rw [cnt, if_pos hz]; omega
              clear hz
              go_wp2_with fail
              refine (impl_PolyAt _ _ _ _ _ _ O_p.out.sl).mono ?_
              rintro e W3 hd
              obtain ⟨rfl, b_d⟩ := hd.below
              have Z_W3 : wr.heap.size ≤ W3.heap.size := b_d.size
              clear hd
              replace O_p := Lib.hid (O_p.out.below b_d)
              replace B := Lib.hid (B.out.trans (b_d.mono B.out.size))
              clear b_d
              go_wp2
              go_roundw
              case rel => exact ⟨j + 1, by omega, LE, by rw [CE.out], by go_num, O_p.out, B.out⟩
              case measure => simp [intOf]; omega
            · have zb : (Fp.at_ zs (j : Int) == 0) = false := beqF (by rw [AE.out]; exact hz)
              have CE : Hid ((cnt zs (j + 1) : Int) = (cnt zs j : Int)) := by show _ = _; rw [cnt, if_neg hz]; omega
              clear hz
              go_wp2_with fail
              refine (impl_PolyAt _ _ _ _ _ _ O_p.out.sl).mono ?_
              rintro e W4 hd
              obtain ⟨rfl, b_d⟩ := hd.below
              have Z_W4 : wr.heap.size ≤ W4.heap.size := b_d.size
              clear hd
              replace O_p := Lib.hid (O_p.out.below b_d)
              replace B := Lib.hid (B.out.trans (b_d.mono B.out.size))
              clear b_d
              go_wp2
              go_roundw
              case rel => exact ⟨j + 1, by omega, LE, by rw [CE.out], by go_num, O_p.out, B.out⟩
              case measure => simp [intOf]; omega
          · have e : j = 31 := by omega
            subst e
            have l1 := L_p.out
            cases u
            · have F := few hp (by rw [l1]; exact U.out.symm)
              rw [l1] at F
              have F2 : (cnt zs 31 : Int) < (k : Int) := by omega
              clear l1
              go_wp2
              go_ret
              exact ⟨rfl, B.out⟩
            · have F := many (zs := zs) (by rw [l1]; exact U.out.symm)
              rw [F]
              clear l1 F
              go_wp2
              go_ret
              exact ⟨rfl, B.out⟩

/-! ### THE ROW's STEP: WRITTEN OUT: LEAVE IT -/
set_option maxRecDepth 100000 in
theorem lifted (os : Os) (started : os.Started) (H : Type) (enc : TypeId × Value → H) :
    ReturnsInHanded {} Try.checked os 6 .any (Rows.fnPolyRootsSpec.pre6 enc Try.prog Try.f6 Rows.fnPolyRootsRow.domain false) (Rows.fnPolyRootsSpec.post enc Try.prog Try.f6 false true false false) := by
  refine returnsInHanded_of_change (C := Try.checked) own started (by kernel_rfl) Try.func6
    (ChangeSpec.witness6 (enc := enc) (C := Try.checked) false ⟨#[], #[.slice none 0 0], []⟩ 8 (by kernel_rfl) (by kernel_rfl) (by kernel_rfl) (by kernel_rfl)) ?_
  intro W base args ds gs before hval0 hW hcnd _
  have hval : ∀ (j : Nat) t v, Try.f6.params[j]? = some t → args[j]? = some v → Value.okWide Try.prog W .any base t v := hval0
  have hW' := hW
  obtain ⟨p, q, hA0, hV, rfl, hfz, hnd⟩ := hW
  have hA : DataW.TrodAll enc Try.prog W 0 (fun _ => true) true Try.f6.params.toList args.toList ds p := hA0
  rw [Try.params6] at hA hval
  obtain ⟨v0, vs0, d0, ds0, p0, q0, hargs, rfl, rfl, h0, r0⟩ := trodAll_cons hA
  obtain ⟨rfl, rfl, rfl⟩ := trodAll_nil r0
  obtain rfl : args = #[v0] := by cases args; simp_all
  obtain ⟨rfl, rfl⟩ := trodVars_none hV
  obtain ⟨a0, len0, cap0, rfl⟩ := okWide_slice Try.underlying28 (hval 0 28 v0 rfl rfl)
  have k0 := h0
  have lt0 : ∀ x ∈ p0, x.block < W.heap.size := by obtain ⟨m, hm⟩ := k0; exact DataW.trod_lt m _ _ _ hm
  obtain ⟨z0, w0⟩ : ∃ zs, IsRow .u8 W a0 len0 cap0 zs := by
    obtain ⟨fuel, hf⟩ := h0
    rcases open_ints Try.underlying28 Try.underlying5 (by kernel_rfl) hf with ⟨hcs, _⟩ | ⟨x, l, c, zs, hcs, _, hl, hm, hz, _, hcell, hwz⟩
    · simp [Value.cells] at hcs
      obtain ⟨rfl, rfl, rfl⟩ := hcs
      exact ⟨[], .inl ⟨rfl, rfl, rfl, rfl⟩⟩
    · simp [Value.cells] at hcs
      obtain ⟨rfl, rfl, rfl⟩ := hcs
      exact ⟨zs, .inr ⟨_, rfl, hl, hm, by simpa using hz, hcell, hwz⟩⟩
  clear hA0 hval0
  refine (walk a0 len0 cap0 z0 W w0).mono fun e W' ⟨he, bel⟩ => ?_
  subst he
  exact ⟨_, rfl, _, _, _, [], _, [], hW', trodAll_mk1 (shut_bool Try.underlying4 _), (trodAll_cons_mk (Below.trod laidOut (by kernel_rfl) (of_decide_eq_true (by kernel_rfl)) k0 bel lt0) trodAll_mk0), rfl, bel.frame _, fun h => by cases h⟩

theorem over : Rows.fnPolyRootsRow.holds Try.pinned (OpenSpec.ofChange Rows.fnPolyRootsSpec) :=
  OpenClaim.holds_of_wide 6 Try.f6 rfl rfl rfl rfl rfl rfl rfl ⟨rfl, rfl, rfl, rfl, rfl⟩ rfl rfl rfl rfl rfl (by kernel_rfl) Try.func6 (by kernel_rfl)
    (of_decide_eq_true (by kernel_rfl)) (by unfold Func.isWrapper; first | (rw [if_pos (by decide +kernel)]; kernel_rfl) | (rw [if_neg (by decide +kernel)]; exact ⟨rfl, rfl⟩))
    (fun os started H enc _ => lifted os started H enc)

/-- ████ THE STATEMENT ████ -/
theorem proved : Rows.FnPolyRootsSaid := over
#print axioms proved
end Go.Proofs.Ytbehnbemhnnmfaa.fnPolyRoots
