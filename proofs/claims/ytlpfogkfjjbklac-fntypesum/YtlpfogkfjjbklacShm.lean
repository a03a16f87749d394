/-
  Chapter 3: both shares at once; of the model, and of the program in company.
-/
import Derived.Test.YtlpfogkfjjbklacShk
import Derived.Test.YtlpfogkfjjbklacKlaw
import Derived.Test.YtlpfogkfjjbklacShs
import Derived.Laws.CopyOwn
namespace Go.Proofs.Ytlpfogkfjjbklac
open Go.RowKit
set_option linter.unusedVariables false
set_option linter.unusedSimpArgs false
theorem made_block {w : World} {base g n cap : Nat} {e : TypeId} {xs : List Value} (h : w.ownsRow base e 1 (.slice (some ⟨g, 0, none⟩) n cap) n xs) : ∃ cur : List Value, w.heap[g]? = some (.cells cur.toArray e (0, 0)) ∧ cur.length = cap := by
  rcases h.2 with ⟨h, _⟩ | ⟨gg, cap', cur, hv, _, hh, _, _, hx', _⟩
  · cases h
  · injection hv with h4 _ h6
    injection h4 with h4
    injection h4 with h4
    subst h4 h6
    exact ⟨cur.toList, by simpa using hh, by simpa using hx'⟩
theorem own_whole {lo hi g : Nat} {t : TypeId} {w : World} {ys : List Int} {n : Nat} (h : w.heap[g]? = some (.cells (ys.map (Value.int .i64)).toArray t (0, 0))) (h1 : lo ≤ g) (h2 : g < hi) (hn : ys.length = n) (hm : n ≤ maxLen) : Own lo hi w (some ⟨g, 0, none⟩) n n ys := by
  subst hn
  refine ⟨rfl, Nat.le_refl _, hm, fun _ => ⟨g, 0, rfl, h1, h2, (Array.getElem?_eq_some_iff.1 h).1, fun i hi => ⟨?_, ?_⟩⟩⟩
  · simp [World.cell?, h, List.getD_eq_getElem?_getD, List.getElem?_eq_getElem hi]
  · simp [World.frozen?, h]
/-- What is kept of what was drawn. -/
def Lift.kept (xs ys : List Int) : List Int := if Fp.fit xs ys then ys else []
theorem Lift.kept_no {xs ys : List Int} (h : Fp.fit xs ys = false) : Lift.kept xs ys = [] := by simp [Lift.kept, h]
theorem Lift.kept_yes {xs ys : List Int} (h : Fp.fit xs ys = true) : Lift.kept xs ys = ys := by simp [Lift.kept, h]
theorem Lift.kept_len {xs ys : List Int} : (Lift.kept xs ys).length ≤ 20 := by
  unfold Lift.kept
  split
  · rename_i h; exact Fp.sok_len (Lift.fit_parts h).2.1
  · simp
namespace Lift
open Go.Conc Go.Proofs.Ytlpfogkfjjbklac.Crew
/-- Two new slices, and a bool. -/
def NewK2 (xs ys : List Int) (t : Bool) (v : World) (x : Value) (v' : World) : Prop := ∃ m a n c a' n' c', x = .tuple #[.slice a n c, .slice a' n' c', .bool t] ∧ v.heap.size ≤ m ∧ m ≤ v'.heap.size ∧ Own v.heap.size m v' a n c xs ∧ Own m v'.heap.size v' a' n' c' ys ∧ Blw v.heap.size v v'
end Lift
end Go.Proofs.Ytlpfogkfjjbklac
