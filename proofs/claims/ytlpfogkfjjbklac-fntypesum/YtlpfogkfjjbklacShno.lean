/-
  Chapter 3: where numbers cannot be put in shares the program's functions say so; no goroutine is started.
-/
import Derived.Test.YtlpfogkfjjbklacShok
namespace Go.Proofs.Ytlpfogkfjjbklac
open Go.RowKit
set_option linter.unusedVariables false
set_option linter.unusedSimpArgs false
def Fp.fit (xs ys : List Int) : Bool := Fp.sok xs && Fp.sok ys && decide (xs.length = ys.length)
/-- Number by number, if it may be done. -/
def Lift.comb (g : Int → Int → Int) (xs ys : List Int) : List Int := if Fp.fit xs ys then (List.range xs.length).map (fun t => g (xs.getD t 0) (ys.getD t 0)) else []
def NoPost (w : World) (e : Ending) (w' : World) : Prop := e = .returned (.tuple #[.slice none 0 0, .bool false]) ∧ Below w.heap.size w w'
theorem impl_combine_no (f : Nat) (a a' : Option Addr) (n n' cap cap' : Nat) (zs zs' : List Int) (w : World) (h : Sl w a n zs) (h' : Sl w a' n' zs') (hno : Fp.fit zs zs' = false) :
    Calls Try.prog 16 #[.func (.func f) #[] #[], .slice a n cap, .slice a' n' cap'] w (NoPost w) := by
  have bel : ∀ o1 o2 o3, Below w.heap.size w (((w.alloc o1).alloc o2).alloc o3) := fun o1 o2 o3 => (((Below.refl _ _).alloc (Nat.le_refl _) o1).alloc (by simp) o2).alloc (by simp; omega) o3
  have L := h.len
  have L' := h'.len
  have K := Lib.hid bel
  have H : ∀ o1 o2 o3, Hid (Sl (((w.alloc o1).alloc o2).alloc o3) a n zs) := fun o1 o2 o3 => h.below (bel o1 o2 o3)
  have H' : ∀ o1 o2 o3, Hid (Sl (((w.alloc o1).alloc o2).alloc o3) a' n' zs') := fun o1 o2 o3 => h'.below (bel o1 o2 o3)
  clear h h' bel
  cases e1 : Fp.sok zs
  · clear hno
    go_enter Try.func16, Try.ntmps16
    go_wp2_with (go_at_call 21; (with_reducible refine (impl_ShareOk _ _ _ zs _ (H _ _ _).out).mono ?_); rintro e w' ⟨rfl, rfl⟩)
    go_ret2
    exact ⟨rfl, K.out _ _ _⟩
  · cases e2 : Fp.sok zs'
    · clear hno
      go_enter Try.func16, Try.ntmps16
      go_wp2_with (first | (go_at_call 21; (with_reducible refine (impl_ShareOk _ _ _ zs _ (H _ _ _).out).mono ?_); rintro e w' ⟨rfl, rfl⟩) | (go_at_call 21; (with_reducible refine (impl_ShareOk _ _ _ zs' _ (H' _ _ _).out).mono ?_); rintro e w' ⟨rfl, rfl⟩))
      go_ret2
      exact ⟨rfl, K.out _ _ _⟩
    · have hn : ((n : Int) != (n' : Int)) = true := by
        simp only [Fp.fit, e1, e2, Bool.true_and, decide_eq_false_iff_not] at hno
        rw [bne_iff_ne]; omega
      clear hno
      go_enter Try.func16, Try.ntmps16
      go_wp2_with (first | (go_at_call 21; (with_reducible refine (impl_ShareOk _ _ _ zs _ (H _ _ _).out).mono ?_); rintro e w' ⟨rfl, rfl⟩) | (go_at_call 21; (with_reducible refine (impl_ShareOk _ _ _ zs' _ (H' _ _ _).out).mono ?_); rintro e w' ⟨rfl, rfl⟩))
      go_ret2
      exact ⟨rfl, K.out _ _ _⟩
theorem impl_ShareSum_no (a a' : Option Addr) (n n' cap cap' : Nat) (zs zs' : List Int) (w : World) (h : Sl w a n zs) (h' : Sl w a' n' zs') (hno : Fp.fit zs zs' = false) :
    Calls Try.prog 8 #[.slice a n cap, .slice a' n' cap'] w (NoPost w) := by
  have H := Lib.hid h
  have H' := Lib.hid h'
  clear h h'
  go_enter Try.func8, Try.ntmps8
  go_wp2_with (go_at_call 16; (with_reducible refine (impl_combine_no _ _ _ _ _ _ _ zs zs' _ H.out H'.out hno).mono ?_); rintro e w' ⟨rfl, K⟩)
  go_ret2
  exact ⟨rfl, K⟩
end Go.Proofs.Ytlpfogkfjjbklac
