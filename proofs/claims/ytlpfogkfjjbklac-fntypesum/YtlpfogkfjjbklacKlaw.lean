/-
  Code in company, statement by statement: the tame ones at once, those that call what starts others one by one.
-/
import Derived.Test.YtlpfogkfjjbklacKay
import Derived.Test.YtlpfogkfjjbklacTfs
import Derived.Test.YtlpfogkfjjbklacSl
import Derived.Test.YtlpfogkfjjbklacBase
namespace Go.Proofs.Ytlpfogkfjjbklac.Lift
open Go.Conc Go.Proofs.Ytlpfogkfjjbklac.Crew Go.RowKit
set_option linter.unusedVariables false
set_option linter.unusedSimpArgs false
/-- The first n + 1 statements of a chain, and what comes behind them. -/
def takeS : Nat → Code → Code
  | 0, .seq x _ => x
  | n + 1, .seq x y => .seq x (takeS n y)
  | _, c => c
def dropS : Nat → Code → Code
  | 0, .seq _ y => y
  | n + 1, .seq _ y => dropS n y
  | _, c => c
def chainOk (P : Program) (fs : List FuncId) : Nat → Code → Bool
  | 0, .seq x _ => codeOk P fs x
  | n + 1, .seq x y => codeOk P fs x && chainOk P fs n y
  | _, _ => false
/-- The operations of the first statement. -/
def opsS : Code → List Oper
  | .seq (.region _ ops _) _ => ops.toList
  | _ => []
theorem fs_good : ∀ f ∈ fs, fnOk Try.prog fs f = true := List.all_eq_true.1 fs_ok
theorem chain_parts : ∀ (n : Nat) (d : Code), chainOk Try.prog fs n d = true → ∃ c l, takeS n d = spine1 c l ∧ d = spine (c :: l) (dropS n d) ∧ ∀ x ∈ c :: l, CodeT Try.prog (· ∈ fs) x
  | 0, .seq x y, h => ⟨x, [], rfl, rfl, fun z hz => by simp only [List.mem_singleton] at hz; subst hz; exact code_of fs_good h⟩
  | n + 1, .seq x y, h => by
    simp only [chainOk, Bool.and_eq_true] at h
    obtain ⟨c, l, h1, h2, h3⟩ := chain_parts n y h.2
    refine ⟨x, c :: l, by simp only [takeS, h1, spine1], ?_, fun z hz => ?_⟩
    · show Code.seq x y = .seq x (spine (c :: l) (dropS n y))
      rw [← h2]
    · rcases List.mem_cons.1 hz with rfl | hz
      · exact code_of fs_good h.1
      · exact h3 z hz
section
variable {B : Nat} {fn : FuncId} {Q : Exit → Act → World → Prop} {tmps : Array Value} {v : World}
/-- Tame statements in a row. -/
theorem KW.stmts (n : Nat) {d y z : Code} (hres : ResOk Try.prog fn) (ok : chainOk Try.prog fs n d = true) (e1 : takeS n d = y) (e2 : dropS n d = z) (hw : ∀ τ, y.wp Try.prog (OutK Try.prog B fn z Q) ⟨tmps, []⟩ (Lift.re v τ 0)) : KW Try.prog B fn d Q tmps v := by
  obtain ⟨c, l, h1, h2, h3⟩ := chain_parts n d ok
  rw [h2, e2]
  refine KW.group F hres h3 fun τ => ?_
  rw [← h1, e1]
  exact hw τ
/-- The last statements, all of them tame. -/
theorem KW.last {d : Code} (hres : ResOk Try.prog fn) (ok : codeOk Try.prog fs d = true) (hw : ∀ τ, d.wp Try.prog (Out Q) ⟨tmps, []⟩ (Lift.re v τ 0)) : KW Try.prog B fn d Q tmps v := KW.tame F hres (code_of fs_good ok) hw
theorem ops_of {m : List Oper} (h : m.all (opOk Try.prog fs) = true) : ∀ x ∈ m, OpT Try.prog (· ∈ fs) x := fun x hx => op_of fs_good (List.all_eq_true.1 h x hx)
/-- A statement with a call of a function that starts others. -/
theorem KW.callS {d z : Code} {id : Nat} {m1 m2 : List Oper} {o : Oper} {f : FuncId} {args : Act → Array Value} (e : d = .seq (.region id (m1 ++ o :: m2).toArray false) z) (ok1 : m1.all (opOk Try.prog fs) = true) (ok2 : m2.all (opOk Try.prog fs) = true) (hwant : ∀ ys, Region.wanted o ys = true)
    (he : ∀ tm w, (execOp (Act.eval ⟨tm, []⟩) o).runT Try.prog w #[] = (.ok (.enter f (args ⟨tm, []⟩)) w, #[]))
    (hw : ∀ τ, wpList Try.prog (m1 ++ o :: m2).toArray (fun e a w => e = .normal ∧ a.defers = [] ∧ KCalls Try.prog B f (args a) w fun r w2 => ∀ τ', wpList Try.prog (m1 ++ o :: m2).toArray (fun e a w => e = .normal ∧ a.defers = [] ∧ KW Try.prog B fn z Q a.tmps w) m2 (a.put o.dst r) (Lift.re w2 τ' 0)) m1 ⟨tmps, []⟩ (Lift.re v τ 0)) : KW Try.prog B fn d Q tmps v := by
  rw [e]
  exact KW.call F (ops_of ok1) (ops_of ok2) hwant he hw
end
theorem own_re {lo hi : Nat} {w : World} {a : Option Addr} {n cap : Nat} {zs : List Int} (h : Own lo hi w a n cap zs) (τ : Nat → Question → Nat) (d : Nat) : Own lo hi (Lift.re w τ d) a n cap zs := ⟨h.len, h.le, h.lim, h.at_⟩
theorem own_at {lo hi : Nat} {w V : World} {a : Option Addr} {n cap : Nat} {zs : List Int} (h : Own lo hi w a n cap zs) {τ : Nat → Question → Nat} {d : Nat} (e : Lift.re w τ d = V) : Own lo hi V a n cap zs := e ▸ own_re h τ d
theorem own_blw {lo hi : Nat} {w V : World} {a : Option Addr} {n cap : Nat} {zs : List Int} (h : Own lo hi w a n cap zs) (k : Blw w.heap.size w V) : Own lo hi V a n cap zs := by
  have h1 := h.below k.below
  exact ⟨h1.len, h1.le, h1.lim, h1.at_⟩
theorem _root_.Go.Proofs.Ytlpfogkfjjbklac.Sl.blw {w V : World} {a : Option Addr} {n : Nat} {zs : List Int} (h : Sl w a n zs) (k : Blw w.heap.size w V) : Sl V a n zs := by
  have h1 := h.below k.below
  exact ⟨h1.len, h1.at_⟩
theorem bys_at {w V : World} {a : Option Addr} {len : Nat} (h : Bys w.heap.size w a len) {τ : Nat → Question → Nat} {d : Nat} (e : Lift.re w τ d = V) : Bys V.heap.size V a len := e ▸ h
theorem slc_blw {w V : World} {a : Option Addr} {n : Nat} {zs : List Int} (h : Sl w a n zs) (k : Blw w.heap.size w V) : Sl V a n zs := by
  have h1 := h.below k.below
  exact ⟨h1.len, h1.at_⟩
end Go.Proofs.Ytlpfogkfjjbklac.Lift
