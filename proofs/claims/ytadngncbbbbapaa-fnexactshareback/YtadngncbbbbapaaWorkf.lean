/-
  A worker, whole: from its birth to its release.
-/
import Derived.Test.YtadngncbbbbapaaWorke
import Derived.Test.YtadngncbbbbapaaWgf
namespace Go.Proofs.Ytadngncbbbbapaa.Lift
open Go.Conc Go.Proofs.Ytadngncbbbbapaa.Crew Go.RowKit
open Go.Proofs.Ytadngncbbbbapaa.Wgs (wf bot gDone done_goes goes_nxs nxs didL askL)
open Go.ConcR (WgAt stA smA)
set_option linter.unusedVariables false
set_option linter.unusedSimpArgs false
/-- What 'go' starts. -/
def dgo (Wg ou fr to op a b : Nat) : Deferred := { target := .fn (.func 57) #[.pointer (some ⟨Wg, 0, none⟩), .pointer (some ⟨ou, 0, none⟩), .pointer (some ⟨fr, 0, none⟩), .pointer (some ⟨to, 0, none⟩), .pointer (some ⟨op, 0, none⟩), .pointer (some ⟨a, 0, none⟩), .pointer (some ⟨b, 0, none⟩)], args := #[] }
def tB (Wg ou fr to op a b : Nat) : Array Value := #[.pointer (some ⟨Wg, 0, none⟩), .pointer (some ⟨ou, 0, none⟩), .pointer (some ⟨fr, 0, none⟩), .pointer (some ⟨to, 0, none⟩), .pointer (some ⟨op, 0, none⟩), .pointer (some ⟨a, 0, none⟩), .pointer (some ⟨b, 0, none⟩), undef, undef, undef, undef, undef, undef, undef, undef, undef, undef, undef, undef, undef, undef]
noncomputable def gB (Wg ou fr to op a b : Nat) : Goroutine := G ((baseD 57).at ⟨tB Wg ou fr to op a b, [dcall 58 #[.pointer (some ⟨Wg, 0, none⟩)]]⟩ [.code (.region 1 opsW true)]) [bot]
theorem eB (Wg ou fr to op a b : Nat) : nxs Try.prog false 5 (born Try.prog (dgo Wg ou fr to op a b)) = gB Wg ou fr to op a b := by kernel_rfl
theorem iB (Wg ou fr to op a b : Nat) (w : World) : didL Try.prog false 5 (born Try.prog (dgo Wg ou fr to op a b)) w = askL Try.prog false 5 (born Try.prog (dgo Wg ou fr to op a b)) w := by kernel_rfl
theorem nmDone : (Try.f58.name == "runtime.NumGoroutine") = false := by kernel_rfl
noncomputable def bodyDone : Code := Try.f58.body.getD .skip
theorem hasDone : Try.f58.body = some bodyDone := by kernel_rfl
theorem gone (tm : Array Value) (Wg : Nat) : G ((baseD 58).at { tmps := #[.pointer (some ⟨Wg, 0, none⟩)] ++ Array.replicate (Try.f58.ntmps - (#[.pointer (some ⟨Wg, 0, none⟩)] : Array Value).size) undef, defers := [] } [.code bodyDone]) ({ (baseD 57).at ⟨tm, []⟩ [] with mode := .returning } :: [bot]) = gDone tm [] Wg := by kernel_rfl
section
variable {J : Job} {k : Nat} {s : Str} {f : FuncId} {g : Int → Int → Int} {B : Bxs}
theorem worker_goes (hP : J.P = Try.prog) (hcnt : J.cnt ≤ 4) (F : B.Fits J k s) (hI : IsOp f g) (hfx : ∀ i, i < s.m → J.fx (s.lo + i) = g (s.X i) (s.Y i)) (hM : ∀ i, J.M k i → ∃ i', i' < s.m ∧ i = s.lo + i') :
    ∃ N, ∀ w, WK J k s f B w → Goes J.crew.P false (J.crew.RW k) (J.crew.DW k) (S7 J.crew k) N (born Try.prog (dgo J.Wg B.ou B.fr B.to B.op B.a B.b)) w := by
  obtain ⟨N, hwork⟩ := work_c F hI hfx
  have T := J.termsW k
  have hP' : J.crew.P = Try.prog := hP
  refine ⟨15 + 2 + N + 5, fun w hW => ?_⟩
  rw [hP']
  refine goes_nxs (n := 5) (m := 15 + 2 + N) T.trans T.idle (fun w => iB _ _ _ _ _ _ _ w) ?_
  rw [eB]
  refine hwork (fun e a w' => e = .normal ∧ a.defers = [dcall 58 #[.pointer (some ⟨J.Wg, 0, none⟩)]] ∧ FH J k s s.m w') _ w ⟨rfl, rfl, rfl, rfl, rfl, rfl, rfl⟩ hW (fun a w' hd hF => ⟨rfl, hd, hF⟩) (baseD 57) [] [bot] _ (15 + 2) rfl (by simp [baseD]) ?_
  rintro e a w' ⟨rfl, hd, hF⟩
  show Goes Try.prog false (J.RW k) (J.DW k) (S7 J.crew k) (15 + 2) (G ((baseD 57).at a []) [bot]) w'
  refine Goes.step rfl fun w₁ r₁ => ?_
  rw [stepG_end]
  refine ⟨T.idle _, Goes.step rfl fun w₂ r₂ => ?_⟩
  rw [stepG_unwind_enter hd Try.func58 nmDone hasDone]
  refine ⟨T.idle _, ?_⟩
  rw [gone]
  have hF₂ := (hF.rely F.str r₁).rely F.str r₂
  have hg := done_goes (C := J.crew) hP' hcnt a.tmps [] (k := k) T.trans ((Job.ok F.str.fit).rwRefl k) T.idle (fun w w' r hl => r.live hl) ((Job.ok F.str.fit).finRely k) (w := w₂) hF₂.live (fun i hi => by
    obtain ⟨i', h1, rfl⟩ := hM i hi
    exact hF₂.done i' h1 h1)
  rw [hP'] at hg
  exact hg
end
theorem isOp_plus : IsOp 42 (fun x y => (x + y) % 31) := ⟨fun T => plus_c T, fun args w => ⟨by rfl, by rfl⟩⟩
theorem isOp_minus : IsOp 41 (fun x y => (x - y) % 31) := ⟨fun T => minus_c T, fun args w => ⟨by rfl, by rfl⟩⟩
end Go.Proofs.Ytadngncbbbbapaa.Lift
