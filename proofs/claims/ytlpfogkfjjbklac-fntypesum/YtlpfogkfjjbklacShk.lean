/-
  ShareBack, ShareSum, ShareDrawn in company.
-/
import Derived.Test.YtlpfogkfjjbklacCmb
namespace Go.Proofs.Ytlpfogkfjjbklac.Lift
open Go.Conc Go.Proofs.Ytlpfogkfjjbklac.Crew Go.RowKit
open Go.Proofs.Ytlpfogkfjjbklac.Wgs (cf nxs didL askL)
set_option linter.unusedVariables false
theorem K.nxs {P : Program} {B : Nat} {v : World} {Q : Goroutine → World → Prop} : ∀ {n : Nat} {a : Goroutine}, (∀ w, didL P true n a w = askL P true n a w) → K P B (Wgs.nxs P true n a) v Q → K P B a v Q
  | 0, a, _, h => h
  | n + 1, a, hd, h => by
    have h1 : ∀ w, stepG P true a w = .go (Wgs.nx P true a) w #[] := fun w => by
      have := hd w
      simp only [didL, askL, List.cons.injEq, Prod.mk.injEq] at this
      exact this.1.1
    have h2 : a.status = .running := by
      have := hd default
      simp only [didL, askL, List.cons.injEq, Prod.mk.injEq] at this
      exact this.1.2
    exact K.idle h2 h1 (K.nxs (fun w => by
      have := hd w
      simp only [didL, askL, List.cons.injEq] at this
      exact this.2) h)
noncomputable def fShareSum (pa : Option Addr) (n ca : Nat) (pb : Option Addr) (m cb : Nat) : Frame := (nxs Try.prog true 10 (G (Frame.enter Try.prog 8 #[.slice pa n ca, .slice pb m cb] .normal) [])).callers.headD default
theorem eShareSum (pa : Option Addr) (n ca : Nat) (pb : Option Addr) (m cb : Nat) (c : Frame) (cs : List Frame) : nxs Try.prog true 10 (G (Frame.enter Try.prog 8 #[.slice pa n ca, .slice pb m cb] .normal) (c :: cs)) = G (Frame.enter Try.prog 16 #[.func (.func 17) #[] #[], .slice pa n ca, .slice pb m cb] .normal) (fShareSum pa n ca pb m cb :: c :: cs) := by kernel_rfl
theorem iShareSum (pa : Option Addr) (n ca : Nat) (pb : Option Addr) (m cb : Nat) (c : Frame) (cs : List Frame) (w : World) : didL Try.prog true 10 (G (Frame.enter Try.prog 8 #[.slice pa n ca, .slice pb m cb] .normal) (c :: cs)) w = askL Try.prog true 10 (G (Frame.enter Try.prog 8 #[.slice pa n ca, .slice pb m cb] .normal) (c :: cs)) w := by kernel_rfl
theorem eShareSum' (pa : Option Addr) (n ca : Nat) (pb : Option Addr) (m cb : Nat) (p : Option Addr) (l k : Nat) (t : Bool) (c : Frame) (cs : List Frame) : nxs Try.prog true 7 (G ((fShareSum pa n ca pb m cb).finish (.tuple #[.slice p l k, .bool t])) (c :: cs)) = G (c.finish (.tuple #[.slice p l k, .bool t])) cs := by kernel_rfl
theorem iShareSum' (pa : Option Addr) (n ca : Nat) (pb : Option Addr) (m cb : Nat) (p : Option Addr) (l k : Nat) (t : Bool) (c : Frame) (cs : List Frame) (w : World) : didL Try.prog true 7 (G ((fShareSum pa n ca pb m cb).finish (.tuple #[.slice p l k, .bool t])) (c :: cs)) w = askL Try.prog true 7 (G ((fShareSum pa n ca pb m cb).finish (.tuple #[.slice p l k, .bool t])) (c :: cs)) w := by kernel_rfl
theorem ShareSum_k {B : Nat} {v : World} {pa pb : Option Addr} {n m ca cb : Nat} {xs ys : List Int} (hB : B ≤ v.heap.size) (hx : Sl v pa n xs) (hy : Sl v pb m ys) (h1 : n ≤ ca) (h2 : m ≤ cb) :
    KCalls Try.prog B 8 #[.slice pa n ca, .slice pb m cb] v (NewI (comb (fun x y => (x + y) % 31) xs ys) (Fp.fit xs ys) v) := by
  intro c cs Q hq
  refine K.nxs (n := 10) (iShareSum pa n ca pb m cb c cs) ?_
  rw [eShareSum]
  refine combine_k isOp_plus hB hx hy h1 h2 _ _ _ ?_
  rintro x v' ⟨p, l, k, rfl, hO, hb⟩
  refine K.nxs (n := 7) (iShareSum' pa n ca pb m cb p l k _ c cs) ?_
  rw [eShareSum']
  exact hq _ _ ⟨p, l, k, rfl, hO, hb⟩
end Go.Proofs.Ytlpfogkfjjbklac.Lift
