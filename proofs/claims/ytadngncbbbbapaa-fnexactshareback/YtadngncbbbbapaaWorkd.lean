/-
  fill, in company: a stretch is filled.
-/
import Derived.Test.YtadngncbbbbapaaWorkc
namespace Go.Proofs.Ytadngncbbbbapaa.Lift
open Go.Conc Go.Proofs.Ytadngncbbbbapaa.Crew Go.RowKit
set_option linter.unusedVariables false
set_option linter.unusedSimpArgs false
section
variable {J : Job} {k : Nat} {s : Str} {f : FuncId} {g : Int → Int → Int}
def FInv (J : Job) (k : Nat) (s : Str) (f : FuncId) (c1 c2 c3 : Nat) (a : Act) (w : World) : Prop := ∃ (j : Nat) (v4 v5 v6 v7 v8 v9 v12 v13 v14 v15 v16 v17 v18 v19 v20 v21 v22 v23 v24 v25 v26 v27 : Value), j ≤ s.m ∧ FH J k s j w ∧
  a = { tmps := #[.slice (some ⟨J.Ob, s.lo, none⟩) s.m c1, .func (.func f) #[] #[], .slice (some ⟨s.ab, s.ao, none⟩) s.m c2, .slice (some ⟨s.bb, s.bo, none⟩) s.m c3, v4, v5, v6, v7, v8, v9, .int .i64 (s.m : Int), .int .i64 (j : Int), v12, v13, v14, v15, v16, v17, v18, v19, v20, v21, v22, v23, v24, v25, v26, v27], defers := [] }
def FMu (m : Nat) (a : Act) (_ : World) : Nat := match a.tmps.getD 11 undef with | .int _ j => m - j.toNat | _ => 0
set_option maxRecDepth 100000 in
set_option maxHeartbeats 4000000 in
theorem fill_c (F : s.Fits J k) (hI : IsOp f g) (hfx : ∀ i, i < s.m → J.fx (s.lo + i) = g (s.X i) (s.Y i)) (c1 c2 c3 : Nat) : ∃ N, ∀ w, FH J k s 0 w → CallsC Try.prog false (J.RW k) (J.DW k) 59 #[.slice (some ⟨J.Ob, s.lo, none⟩) s.m c1, .func (.func f) #[] #[], .slice (some ⟨s.ab, s.ao, none⟩) s.m c2, .slice (some ⟨s.bb, s.bo, none⟩) s.m c3] N w fun v w' => v = .tuple #[] ∧ FH J k s s.m w' := by
  obtain ⟨N3, hround⟩ := round_c F hI hfx c1 c2 c3
  have T := J.termsW k
  have hsm := F.small
  co_apply Exists.intro
  intro w hF
  co_apply callsC_of_wpC Try.func59 (by rfl) rfl
  simp only [Try.ntmps59, List.size_toArray, List.length_cons, List.length_nil, Nat.reduceAdd, Nat.reduceSub, Array.replicate_succ, Array.replicate_zero, List.push_toArray, List.append_toArray, List.nil_append, List.cons_append]
  co_apply wpC_seq T
  co_reg T
  co_op (FH.rely F) hF (co_quiet T)
  co_op (FH.rely F) hF (co_quiet T)
  co_op (FH.rely F) hF (co_quiet T)
  co_apply opsC_nil T
  co_then
  co_apply wpC_block T
  co_apply wpC_loop T (FInv J k s f c1 c2 c3) (FMu s.m) _ s.m
  · exact ⟨0, _, _, _, _, _, _, _, _, _, _, _, _, _, _, _, _, _, _, _, _, _, _, Nat.zero_le _, hF, rfl⟩
  · simp [FMu]
  · rintro a w' ⟨j, v4, v5, v6, v7, v8, v9, v12, v13, v14, v15, v16, v17, v18, v19, v20, v21, v22, v23, v24, v25, v26, v27, hj, hS, rfl⟩
    co_apply wpC_seq T
    co_reg T
    co_op (FH.rely F) hS (co_quiet T)
    co_apply opsC_nil T
    co_then
    co_apply wpC_seq T
    co_split T (decide ((j : Int) < (s.m : Int)))
    · intro hlt
      have hlt' : j < s.m := by have := of_decide_eq_true hlt; omega
      co_apply wpC_skip T
      co_then
      co_apply wpC_seq T
      co_apply wpC_block T
      co_apply wpC_seq T
      co_reg T
      co_op (FH.rely F) hS (co_quiet T)
      co_op (FH.rely F) hS (co_quiet T)
      co_apply opsC_nil T
      co_then
      co_apply hround j hlt'
      · exact ⟨rfl, rfl, rfl, rfl, rfl, rfl⟩
      · exact hS
      · rintro ⟨tm, df⟩ w2 hsz hdf hk hS2
        simp only at hsz hdf hk
        subst hdf
        obtain ⟨u0, u1, u2, u3, u4, u5, u6, u7, u8, u9, u10, u11, u12, u13, u14, u15, u16, u17, u18, u19, u20, u21, u22, u23, u24, u25, u26, u27, rfl⟩ := array28 tm hsz
        have k0 := hk 0 (by omega)
        have k1 := hk 1 (by omega)
        have k2 := hk 2 (by omega)
        have k3 := hk 3 (by omega)
        have k10 := hk 10 (by omega)
        have k11 := hk 11 (by omega)
        simp only [List.getElem?_toArray, List.getElem?_cons_succ, List.getElem?_cons_zero, Option.some.injEq] at k0 k1 k2 k3 k10 k11
        subst k0 k1 k2 k3 k10 k11
        co_then
        have ew : IntKind.i64.wrap ((j : Int) + 1) = ((j + 1 : Nat) : Int) := by rw [IntKind.wrap_i64]; omega
        co_reg T
        co_op (FH.rely F) hS2 (co_quiet T)
        co_op (FH.rely F) hS2 (co_quiet T)
        co_apply opsC_nil T
        co_then
        exact ⟨⟨j + 1, u4, u5, u6, u7, u8, u9, u12, u13, u14, u15, u16, u17, u18, u19, u20, u21, u22, u23, u24, u25, u26, .int .i64 ((j + 1 : Nat) : Int), hlt', hS2, by simp⟩, by simp [FMu]; omega⟩
    · intro hlt
      have hlt' : j = s.m := by have := of_decide_eq_false hlt; omega
      subst hlt'
      co_apply wpC_exit T
      co_then
      exact ⟨rfl, _, resultsC_none (by rfl) _, rfl, hS⟩
end
end Go.Proofs.Ytadngncbbbbapaa.Lift
