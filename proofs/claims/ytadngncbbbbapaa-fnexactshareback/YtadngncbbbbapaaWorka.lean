/-
  The arithmetic of the workers, in company: it touches no memory.
-/
import Derived.Test.YtadngncbbbbapaaAnyo
import Derived.Test.YtadngncbbbbapaaRows
import Derived.Test.YtadngncbbbbapaaFp
import Derived.RowKit
import Derived.WalkKit
import Derived.IntWalk
namespace Go.Proofs.Ytadngncbbbbapaa.Lift
open Go.Conc Go.RowKit
set_option linter.unusedVariables false
set_option linter.unusedSimpArgs false
variable {main : Bool} {R : World → World → Prop} {D : World → World → Array Event → Prop}
set_option maxRecDepth 100000 in
set_option maxHeartbeats 2000000 in
theorem reduce_c (T : Terms R D) : ∃ n, ∀ (x : Int) (w : World), -1000 < x → x < 1000 → CallsC Try.prog main R D 61 #[.int .i64 x] n w fun v w' => v = .int .i64 (x % 31) ∧ Since R w w' := by
  co_apply Exists.intro
  intro x w h1 h2
  have lo := Fp.tmod_lo x
  have hi := Fp.tmod_hi x
  have e0 : IntKind.i64.wrap (x.tmod 31) = x.tmod 31 := by rw [IntKind.wrap_i64]; omega
  have e1 : IntKind.i64.wrap (x.tmod 31 + 31) = x.tmod 31 + 31 := by rw [IntKind.wrap_i64]; omega
  have hF : Since R w w := .refl w
  co_apply callsC_of_wpC Try.func61 (by rfl) rfl
  simp only [Try.ntmps61, List.size_toArray, List.length_cons, List.length_nil, Nat.reduceAdd, Nat.reduceSub, Array.replicate_succ, Array.replicate_zero, List.push_toArray, List.append_toArray, List.nil_append, List.cons_append]
  co_stmt T (Since.rely T) hF (co_quiet T)
  co_apply wpC_seq T
  co_reg T
  co_op (Since.rely T) hF (co_quiet T)
  co_op (Since.rely T) hF (co_quiet T)
  co_op (Since.rely T) hF (co_quiet T)
  co_apply opsC_nil T
  co_then
  co_apply wpC_seq_mid T (fun a' w' => Since R w w' ∧ ∃ v5 v6 v7 v8, a' = { tmps := #[.int .i64 (x % 31), undef, .int .i64 0, .int .i64 x, .int .i64 (x.tmod 31), v5, v6, v7, v8, undef], defers := [] })
  · co_go T (Since.rely T) hF (co_quiet T)
    co_split T (decide (x.tmod 31 < 0))
    · intro hx
      have hx' := of_decide_eq_true hx
      co_go T (Since.rely T) hF (co_quiet T)
      exact ⟨hF, _, _, _, _, by rw [← Fp.tmod_neg x hx']⟩
    · intro hx
      have hx' := of_decide_eq_false hx
      co_go T (Since.rely T) hF (co_quiet T)
      exact ⟨hF, _, _, _, _, by rw [← Fp.tmod_pos x (by omega)]⟩
  · rintro a' w' ⟨hF, v5, v6, v7, v8, rfl⟩
    co_go T (Since.rely T) hF (co_quiet T)
    exact ⟨rfl, _, resultsC_tmp (by rfl) _, by simp, hF⟩
set_option maxRecDepth 100000 in
set_option maxHeartbeats 2000000 in
theorem plus_c (T : Terms R D) : ∃ n, ∀ (x y : Int) (w : World), Fp.ok x = true → Fp.ok y = true → CallsC Try.prog main R D 42 #[.int .i64 x, .int .i64 y] n w fun v w' => v = .int .i64 ((x + y) % 31) ∧ Since R w w' := by
  obtain ⟨nr, hr⟩ := reduce_c (main := main) T
  co_apply Exists.intro
  intro x y w hx hy
  rw [Fp.ok_iff] at hx hy
  have e0 : IntKind.i64.wrap (x + y) = x + y := by rw [IntKind.wrap_i64]; omega
  have hF : Since R w w := .refl w
  co_apply callsC_of_wpC Try.func42 (by rfl) rfl
  simp only [Try.ntmps42, List.size_toArray, List.length_cons, List.length_nil, Nat.reduceAdd, Nat.reduceSub, Array.replicate_succ, Array.replicate_zero, List.push_toArray, List.append_toArray, List.nil_append, List.cons_append]
  co_go T (Since.rely T) hF (co_quiet T)
  co_apply opsC_call T rfl (by rfl) rfl
  · walk_nrm
    exact hr (x + y) _ (by omega) (by omega)
  rintro v w' ⟨rfl, hS⟩
  replace hF : Since R w w' := hS.elim (fun e => e ▸ hF) fun r => Since.rely T hF r
  try walk_nrm
  co_go T (Since.rely T) hF (co_quiet T)
  exact ⟨rfl, _, resultsC_tmp (by rfl) _, by simp, hF⟩
set_option maxRecDepth 100000 in
set_option maxHeartbeats 2000000 in
theorem minus_c (T : Terms R D) : ∃ n, ∀ (x y : Int) (w : World), Fp.ok x = true → Fp.ok y = true → CallsC Try.prog main R D 41 #[.int .i64 x, .int .i64 y] n w fun v w' => v = .int .i64 ((x - y) % 31) ∧ Since R w w' := by
  obtain ⟨nr, hr⟩ := reduce_c (main := main) T
  co_apply Exists.intro
  intro x y w hx hy
  rw [Fp.ok_iff] at hx hy
  have e0 : IntKind.i64.wrap (x - y) = x - y := by rw [IntKind.wrap_i64]; omega
  have hF : Since R w w := .refl w
  co_apply callsC_of_wpC Try.func41 (by rfl) rfl
  simp only [Try.ntmps41, List.size_toArray, List.length_cons, List.length_nil, Nat.reduceAdd, Nat.reduceSub, Array.replicate_succ, Array.replicate_zero, List.push_toArray, List.append_toArray, List.nil_append, List.cons_append]
  co_go T (Since.rely T) hF (co_quiet T)
  co_apply opsC_call T rfl (by rfl) rfl
  · walk_nrm
    exact hr (x - y) _ (by omega) (by omega)
  rintro v w' ⟨rfl, hS⟩
  replace hF : Since R w w' := hS.elim (fun e => e ▸ hF) fun r => Since.rely T hF r
  try walk_nrm
  co_go T (Since.rely T) hF (co_quiet T)
  exact ⟨rfl, _, resultsC_tmp (by rfl) _, by simp, hF⟩
end Go.Proofs.Ytadngncbbbbapaa.Lift
