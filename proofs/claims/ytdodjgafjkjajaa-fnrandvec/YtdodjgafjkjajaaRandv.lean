/-
  RandVec of the program (its elements come out of an iterator function) and of the model.
-/
import Derived.Test.YtdodjgafjkjajaaRand
import Derived.Test.YtdodjgafjkjajaaSl
import Derived.Test.YtdodjgafjkjajaaLw
import Derived.RangeFuncBox
import Derived.RangeFuncNested
import Derived.RangeFuncBound
import Derived.RangeFuncCalls
import Derived.RangeFuncLeaves
import Derived.Shelf.Abstract
import Derived.Shelf.RegionOpen
import Derived.OwnWalkIn
import Derived.TacticsInMore
import Derived.LoopNIn
import Derived.LoopIn
import Derived.Maps.OwnIn
namespace Go.Proofs.Ytdodjgafjkjajaa
open Go.RowKit Go.Shelf
set_option linter.unusedVariables false
set_option linter.unusedSimpArgs false
attribute [local go_sem] Oper.semAt_some
/-- What a round of the loop keeps: the box of the seed. -/
def Kseed (A : Nat) (s : Int) (W W' : World) : Prop := Boxed W A 3 (.int .i64 s) → Boxed W' A 3 (.int .i64 s)
theorem kseed_t {A : Nat} {s : Int} {X Y Z : World} (h : Kseed A s X Y) (k : Kseed A s Y Z) : Kseed A s X Z := fun b => k (h b)
theorem kseed_b {A : Nat} {s : Int} {w : World} (hA : A < w.heap.size) (W : World) (l : Nat) (o o' : Obj) (hl : w.heap.size ≤ l) (_ : W.heap[l]? = some o) (_ : o.isCells = false) (_ : o.isWalk = false) : Kseed A s W (W.putObj l o') :=
  fun b => b.kept (grownBy_putObj' W l o') (by intro e; injection e with e; omega)
set_option maxRecDepth 100000 in
set_option maxHeartbeats 1000000 in
theorem draws1_in (l A N : Nat) (s : Int) (m : Nat) (hs : Fp.sok s = true) (hm : m ≤ 20) (J Jx : List Int → World → Prop)
    (hY : ∀ pre x W, J pre W → pre.length < m → YieldAt Fence.wide (3 - 1) Try.prog l #[.int .i64 x] W fun e W' =>
      (e = .returned (.bool true) ∧ J (pre ++ [x]) W' ∧ Kseed A s W W') ∨ (e = .returned (.bool false) ∧ Jx (pre ++ [x]) W'))
    (W : World) (hN : W.cell? ⟨N, 0, none⟩ = some (.int .i64 (m : Int))) (hA : Boxed W A 3 (.int .i64 s)) (h0 : J [] W) :
    CallsIn Fence.wide 3 Try.prog 39 #[.func (.yield l) #[] #[], .pointer (some ⟨N, 0, none⟩), .pointer (some ⟨A, 0, none⟩)] W fun e W' => (∃ v, e = .returned v) ∧
      ((∃ ys, ys = Fp.rvec s m ∧ J ys W') ∨ (∃ pre, pre.length ≤ m ∧ Jx pre W')) := by
  refine callsIn_of_wp Try.func39 rfl trivial ?_ rfl
  simp only [Try.ntmps39, List.size_toArray, List.length_cons, List.length_nil, Nat.reduceAdd, Nat.reduceSub, Array.replicate_succ, Array.replicate_zero, List.push_toArray, List.append_toArray, List.nil_append, List.cons_append]
  gi_wp2
  gi_loopw [6] (fun i wr => ∃ k : Nat, k ≤ m ∧ i = .int .i64 k ∧ J (Fp.rvec s k) wr ∧ Boxed wr A 3 (.int .i64 s)) (fun i _ => m - (intOf i).toNat)
  case atStart => exact ⟨0, Nat.zero_le _, rfl, h0, hA⟩
  case round =>
    obtain ⟨k, hk, rfl, hJs, hB⟩ := hrel
    have hbc := hB.cell
    by_cases hlt : k < m
    · have ik : Fp.iok (k : Int) = true := (Fp.iok_iff _).2 ⟨by omega, by omega⟩
      obtain ⟨fn, tmps, assign, body, hy, hR⟩ := hY _ (Fp.rnd s (k : Int)) wr hJs (by rw [Fp.rvec_len]; exact hlt)
      gi_wp2_with (refine ⟨trivial, ?_⟩; gi_at_call 34; refine (callsIn_wide.2 (impl_drawnBy s (k : Int) wr hs ik)).mono ?_; rintro e w' ⟨rfl, rfl⟩)
      refine hR.mono ?_
      rintro e W3 (⟨rfl, hJ3, hk3⟩ | ⟨rfl, hJx3⟩)
      · have hB3 := hk3 hB
        gi_wp2
        go_roundw
        case rel => exact ⟨k + 1, by omega, by simp, by rw [Fp.rvec_succ]; exact hJ3, hB3⟩
        case measure => simp [intOf]; omega
      · gi_wp2
        refine bodyPost_ret (results_none rfl _ _ _) rfl ?_
        exact ⟨⟨_, rfl⟩, .inr ⟨_, by rw [List.length_append, Fp.rvec_len]; simp; omega, hJx3⟩⟩
    · obtain rfl : k = m := by omega
      gi_wp2
      go_end0
      exact ⟨⟨_, rfl⟩, .inl ⟨_, rfl, hJs⟩⟩
theorem draws_in (s m : Int) (w : World) :
    CallsIn Fence.wide 3 Try.prog 32 #[.int .i64 s, .int .i64 m] w fun e w' => e = .returned (.func (.func 39) #[] #[.pointer (some ⟨w.heap.size + 1, 0, none⟩), .pointer (some ⟨w.heap.size, 0, none⟩)]) ∧ w' = (w.alloc (.cells #[.int .i64 s] 3)).alloc (.cells #[.int .i64 m] 3) := by
  refine callsIn_of_wp Try.func32 rfl trivial ?_ rfl
  simp only [Try.ntmps32, List.size_toArray, List.length_cons, List.length_nil, Nat.reduceAdd, Nat.reduceSub, Array.replicate_succ, Array.replicate_zero, List.push_toArray, List.append_toArray, List.nil_append, List.cons_append]
  gi_wp2
  go_ret
  exact ⟨rfl, rfl⟩
theorem draws_stops (A N : Nat) (s : Int) (m : Nat) (hs : Fp.sok s = true) (hm : m ≤ 20) (w : World) (hN : N < w.heap.size) (hAl : A < w.heap.size)
    (hc : w.cell? ⟨N, 0, none⟩ = some (.int .i64 (m : Int))) (hA : Boxed w A 3 (.int .i64 s)) :
    SeqStopsK Fence.wide 3 Try.prog 39 #[.pointer (some ⟨N, 0, none⟩), .pointer (some ⟨A, 0, none⟩)] (fun x : Int => #[Value.int .i64 x]) (Kseed A s) (fun ys => ys = Fp.rvec s m) (fun pre => pre.length ≤ m) m w := fun l J Jx W hW _ _ hY h0 =>
  draws1_in l A N s m hs hm J Jx hY W ((hW.cell (p := ⟨N, 0, none⟩) hN).trans hc) ((hW.block A hAl).trans hA) h0
theorem rv_info : (Try.prog.info? 3).map (fun i => (i.zero, i.size, i.bytes)) = some (some (.int .i64 0), 1, 8) := by kernel_rfl
set_option maxRecDepth 100000 in
set_option maxHeartbeats 2000000 in
theorem randVec_in (s : Int) (m : Nat) (w : World) (hs : Fp.sok s = true) (hm : m ≤ 20) :
    CallsIn Fence.wide 4 Try.prog 12 #[.int .i64 s, .int .i64 (m : Int)] w (NewIntsB (Fp.rvec s m) true w) := by
  obtain ⟨i0, hi, hz0, hz1, hz2⟩ := info_parts rv_info
  have I := Lib.hid (show i0.bytes * m ≤ 281474976710656 by rw [hz2]; omega)
  have M : m ≤ maxLen := by unfold maxLen; omega
  refine callsIn_of_wp_marks Try.func12 rfl trivial ?_ rfl
  simp only [Try.ntmps12, List.size_toArray, List.length_cons, List.length_nil, Nat.reduceAdd, Nat.reduceSub, Array.replicate_succ, Array.replicate_zero, List.push_toArray, List.append_toArray, List.nil_append, List.cons_append]
  have so : ∀ W, CallsIn Fence.wide 3 Try.prog 31 #[.int .i64 s] W fun e w' => e = .returned (.bool true) ∧ W = w' := fun W => by
    have := callsIn_wide (n := 3).2 (impl_seedOk s W)
    rwa [hs] at this
  gi_wp2_with (first
    | (refine ⟨trivial, ?_⟩; gi_at_call 31; refine (so _).mono ?_; rintro e w' ⟨rfl, rfl⟩)
    | (gi_at_make; refine wpListIn_make_own _ rfl _ _ 25 rfl w.heap.size 3 i0 _ 1 Try.underlying25 hi hz0 hz1 .i64 .i64 _ m rfl rfl rfl I.out M (Nat.le_refl _) ?_; intro w1 own grow)
    | (refine ⟨trivial, ?_⟩; gi_at_call 32; refine (draws_in _ _ _).mono ?_; rintro e w' ⟨rfl, rfl⟩))
  have hsz : w.heap.size < w1.heap.size := by
    rcases own.2 with ⟨h, _⟩ | ⟨g, cap, cur, hv, _, hh, _⟩
    · cases h
    · injection hv with h1 h2 h3
      injection h1 with h1; injection h1 with h1
      subst h1
      exact (Array.getElem?_eq_some_iff.1 hh).1
  have bO := Boxed.new w1 25 (.slice (some ⟨w.heap.size, 0, none⟩) 0 m)
  have bA := Boxed.new (w1.alloc (.cells #[.slice (some ⟨w.heap.size, 0, none⟩) 0 m] 25)) 3 (.int .i64 s)
  have bN := Boxed.new ((w1.alloc (.cells #[.slice (some ⟨w.heap.size, 0, none⟩) 0 m] 25)).alloc (.cells #[.int .i64 s] 3)) 3 (.int .i64 (m : Int))
  simp only [World.size_alloc] at bA bN
  have hB1 : Below w.heap.size w w1 := (Below.refl w.heap.size w).grown grow (Nat.le_refl _) (by simp)
  have hB0 : Below w.heap.size w (((w1.alloc (.cells #[.slice (some ⟨w.heap.size, 0, none⟩) 0 m] 25)).alloc (.cells #[.int .i64 s] 3)).alloc (.cells #[.int .i64 (m : Int)] 3)) := ((hB1.alloc (by omega) _).alloc (by simp; omega) _).alloc (by simp; omega) _
  refine wpIn_rangeFunc_ownG rfl (by omega) (gf := 39) (lb := #[.pointer (some ⟨w1.heap.size + 1 + 1, 0, none⟩), .pointer (some ⟨w1.heap.size + 1, 0, none⟩)]) rfl trivial (enters_of Try.func39 (by kernel_rfl) rfl)
    (draws_stops (w1.heap.size + 1) (w1.heap.size + 1 + 1) s m hs hm _ (by simp) (by simp <;> omega) bN.cell (bA.alloc _)) kseed_t (kseed_b (by simp <;> omega)) (Below.refl _ _) (fun _ => rfl)
    (fun pre W => ((∃ v, Boxed W w1.heap.size 25 v ∧ W.ownsRow w.heap.size 3 1 v pre.length (pre.map (Value.int .i64)) ∧ v.ownBlock ≠ some (w1.heap.size + 1)) ∧ Boxed W (w1.heap.size + 1) 3 (.int .i64 s)) ∧ Below w.heap.size w W)
    (fun _ _ _ => False)
    (OwnFrom.and (OwnFrom.and (Own.from (holdsRow_own w.heap.size w1.heap.size 25 3 1 (fun pre : List Int => pre.length) (fun pre : List Int => pre.map (Value.int .i64)) (fun (pre : List Int) v => v.ownBlock ≠ some (w1.heap.size + 1))) _) (Own.from (boxed_own _ _ _) _)) (ownFrom_below (Nat.le_refl _) (by simp; omega)))
    (fun _ _ _ _ _ hs _ _ => hs)
    ⟨⟨⟨_, (bO.alloc _).alloc _, ((own.alloc _).alloc _).alloc _, by simp [Value.ownBlock]; omega⟩, bA.alloc _⟩, hB0⟩
    (fun x => { tmps := #[.int .i64 s, .int .i64 (m : Int), undef, undef, .slice none 0 0, .bool false, .pointer (some ⟨w1.heap.size, 0, none⟩), .int .i64 x, .int .i64 s, .bool true, .bool false, .bool false, .int .i64 (m : Int), .bool (decide ((m : Int) < 0)), .bool (decide ((m : Int) < 0)), .bool (decide ((m : Int) < 0)), .int .i64 (m : Int), .bool (decide (20 < (m : Int))), .bool (decide ((m : Int) < 0) || decide (20 < (m : Int))), .int .i64 (m : Int), .slice (some ⟨w.heap.size, 0, none⟩) 0 m, .int .i64 s, .int .i64 (m : Int), .func (.func 39) #[] #[.pointer (some ⟨w1.heap.size + 1 + 1, 0, none⟩), .pointer (some ⟨w1.heap.size + 1, 0, none⟩)], .int .i64 x, undef, undef, undef, undef, undef], defers := [] }) ?assign ?body ?done ?stop
  case assign =>
    intro l x W K hK
    gi_wp2
    exact hK
  case body =>
    rintro l pre x W ⟨⟨⟨v, hv, hrow, hne⟩, hbA⟩, hB⟩ hlt
    have hc := hv.cell
    have hle : w.heap.size ≤ w1.heap.size := by omega
    gi_wp2_with (gi_at_builtin; refine wpListIn_append_own_at _ rfl _ _ 25 rfl w.heap.size 3 i0 (.int .i64 0) 1 8 Try.underlying25 hi hz0 hz1 hz2 rfl (by decide) _ _ _ rfl (hrow.alloc _) ⟨W.heap.size, 0, none⟩ 1 1 [.int .i64 x] rfl rfl (cell_one_new _ _ _) (by simp [Value.oneCell']) (by unfold maxLen; omega) (by omega) (by have := hB.size; simp; omega) ?_; intro v' w2 hown' hgrow _ hat; have hbA1 := (hbA.alloc _).kept hgrow hne.symm; obtain ⟨g', cap', rfl⟩ := ownsRow_succ hown'; obtain ⟨hv1, hv2, hr2, hk2, hb2⟩ := hv.appended (by decide) hrow hB.size hle hown' hgrow; have hc1 := hv1.cell; have hf1 := hv1.frozen)
    have hbA2 := hbA1.other (B' := w1.heap.size) (by omega) (.slice (some ⟨g', 0, none⟩) (pre.length + 1) cap')
    refine ⟨hk2.from _, fun _ => hbA2, ⟨⟨_, hv2, by simpa using hr2, ?_⟩, hbA2⟩, hB.trans hb2⟩
    rcases hat with hat | hat
    · rw [hat]; exact hne
    · rw [hat]
      have := hbA.lt
      simp; omega
  case done =>
    rintro D ys W hD rfl ⟨⟨⟨v, hv, hrow, hne⟩, hbA⟩, hB⟩ hK
    have hc := hv.cell
    rw [Fp.rvec_len] at hrow
    obtain ⟨a, cap, rfl⟩ := row_form hrow
    gi_wp2
    refine ⟨by simp, .inl ⟨_, _, rfl, run_takeDeferred hK, ?_⟩⟩
    exact ⟨_, results_tmp2 rfl _ _ _, _, _, _, rfl, (Own.of_row (ownsRow_putObj hrow _ hK rfl)), hB.trans (belowK_b (w := w) (Nat.le_refl _) W D _ _ (by simp at hD; omega) hK rfl rfl)⟩
  case stop =>
    rintro D c pre W _ _ h _
    exact h.elim
theorem impl_RandVec (s m : Int) (w : World) :
    Calls Try.prog 12 #[.int .i64 s, .int .i64 m] w (NewIntsB (Fp.rvOf s m) (Fp.rvB s m) w) := by
  cases hs : Fp.sok s
  · rw [Fp.rvOf_no (Fp.rvB_ns hs), Fp.rvB_ns hs]
    go_enter Try.func12, Try.ntmps12
    go_wp2_with (go_at_call 31; (with_reducible refine (impl_seedOk _ _).mono ?_); rintro e w' ⟨rfl, rfl⟩)
    go_ret2
    exact ⟨_, _, _, rfl, Own.nil _ _ _ _ _ (by unfold maxLen; omega), Below.refl _ _⟩
  · cases hm : Fp.iok m
    · rw [Fp.rvOf_no (Fp.rvB_nm hm), Fp.rvB_nm hm]
      have hn := (Fp.iok_not m).1 hm
      by_cases h0 : m < 0
      · go_enter Try.func12, Try.ntmps12
        go_wp2_with (go_at_call 31; (with_reducible refine (impl_seedOk _ _).mono ?_); rintro e w' ⟨rfl, rfl⟩)
        go_ret2
        exact ⟨_, _, _, rfl, Own.nil _ _ _ _ _ (by unfold maxLen; omega), Below.refl _ _⟩
      · have h1 : 20 < m := by omega
        clear hn
        go_enter Try.func12, Try.ntmps12
        go_wp2_with (go_at_call 31; (with_reducible refine (impl_seedOk _ _).mono ?_); rintro e w' ⟨rfl, rfl⟩)
        go_ret2
        exact ⟨_, _, _, rfl, Own.nil _ _ _ _ _ (by unfold maxLen; omega), Below.refl _ _⟩
    · have hi := (Fp.iok_iff m).1 hm
      have h := callsIn_wide.1 (randVec_in s m.toNat w hs (by omega))
      rw [Int.toNat_of_nonneg hi.1] at h
      rw [Fp.rvOf_eq (Fp.rvB_eq hs hm), Fp.rvB_eq hs hm]
      exact h
theorem spec_l4Vec (s : Int) (m : Nat) (w : World) (hs : Fp.sok s = true) (hm : m ≤ 20) :
    Calls Try.prog 30 #[.int .i64 s, .int .i64 (m : Int)] w (NewInts (Fp.rvec s m) w) := by
  have HS := Lib.hid hs
  clear hs
  go_enter Try.func30, Try.ntmps30
  go_wp2
  go_loopw [5, 6] (fun v i wr => ∃ (k cap : Nat) (a : Option Addr), k ≤ m ∧ i = .int .i64 k ∧ v = .slice a k cap ∧ Hid (wr.ownsRow w.heap.size 3 1 (.slice a k cap) k ((Fp.rvec s k).map (Value.int .i64))) ∧ Hid (Below w.heap.size w wr)) (fun _ i _ => m - (intOf i).toNat)
  case atStart => exact ⟨0, 0, _, by omega, rfl, rfl, own_empty _ _ _ (Nat.le_refl _), (Below.refl _ _).alloc (Nat.le_refl _) _⟩
  case round =>
    obtain ⟨k, cap, a, hk, rfl, rfl, hO, hB⟩ := hrel
    by_cases hlt : k < m
    · have ik : Fp.iok (k : Int) = true := (Fp.iok_iff _).2 ⟨by omega, by omega⟩
      have hk6 : k ≤ 1048576 := by omega
      have hsz := hB.out.size
      go_wp2_with (first | (go_at_call 35; (refine (spec_l4At _ _ _ HS.out ik).mono ?_); rintro e w' ⟨rfl, rfl⟩) | (at_builtin; (refine wpList_push int_ty rfl (.tmp 13) (.tmp 17) rfl w.heap.size rfl rfl hO.out hk6 hsz ?_); intro g cap' w1 own1 bel1))
      have O1 := Lib.hid own1
      have B1 := Lib.hid (hB.out.trans bel1)
      clear own1 bel1
      go_wp2
      go_roundw
      case rel => exact ⟨k + 1, cap', _, by omega, by go_num, rfl, by rw [Fp.rvec_succ]; exact O1.out, B1.out⟩
      case measure => simp [intOf]; omega
    · have e : k = m := by omega
      subst e
      go_wp2
      go_ret
      exact ⟨_, _, _, rfl, Own.of_row hO.out, hB.out⟩
theorem spec_RandVec (s m : Int) (w : World) :
    Calls Try.prog 11 #[.int .i64 s, .int .i64 m] w (NewIntsB (Fp.rvOf s m) (Fp.rvB s m) w) := by
  cases hb : Fp.rvB s m
  · rw [Fp.rvOf_no hb]
    have sd : ∀ W, Calls Try.prog 29 #[.int .i64 s, .int .i64 m] W fun e w' => e = .returned (.bool false) ∧ W = w' := fun W => by
      have := spec_l4Seed s m W
      rwa [show (Fp.sok s && Fp.iok m) = false from hb] at this
    go_enter Try.func11, Try.ntmps11
    go_wp2_with (go_at_call 29; refine (sd _).mono ?_; rintro e w' ⟨rfl, rfl⟩)
    go_ret2
    exact ⟨_, _, _, rfl, Own.nil _ _ _ _ _ (by unfold maxLen; omega), (Below.refl _ _).alloc (Nat.le_refl _) _⟩
  · rw [Fp.rvOf_eq hb]
    have hx := hb
    simp only [Fp.rvB, Bool.and_eq_true] at hx
    have hi := (Fp.iok_iff m).1 hx.2
    have sd : ∀ W, Calls Try.prog 29 #[.int .i64 s, .int .i64 m] W fun e w' => e = .returned (.bool true) ∧ W = w' := fun W => by
      have := spec_l4Seed s m W
      rwa [show (Fp.sok s && Fp.iok m) = true from hb] at this
    have vc := Lib.hid (spec_l4Vec s m.toNat w hx.1 (by omega))
    rw [Int.toNat_of_nonneg hi.1] at vc
    clear hx hi hb
    go_enter Try.func11, Try.ntmps11
    go_wp2_with (go_at_call 29; refine (sd _).mono ?_; rintro e w' ⟨rfl, rfl⟩)
    refine vc.out.mono ?_
    rintro e w1 ⟨a, n, cap, rfl, o, b⟩
    have O := Lib.hid o
    have B := Lib.hid b
    clear o b
    go_wp2
    go_ret2
    exact ⟨_, _, _, rfl, O.out, B.out⟩
end Go.Proofs.Ytdodjgafjkjajaa
